/- Copies of rules,functions and programs,in new blocks: the laws' own functions. .. -/
import Derived.Test.YtkbijjkgfojchaaGreatQRun51
namespace Go.Proofs.YtkbijjkgfojchaaGreat
set_option maxHeartbeats 1000000
open Go.RowKit
set_option maxRecDepth 8000
theorem Tb.nfgrow {w w':World} {n:Nat} {v:Value} {xs:List ByteArray} (h:Tb w (nf w n) v xs) (hk:Below w.heap.size w w'):Tb w' (nf w' n) v xs :=
 (h.imp (C:=nf w' n) fun b hb hlt=>⟨hb.1,fun o=>by rw[hk.frozen (p:=⟨b,o,none⟩) hlt];exact hb.2 o⟩).grow hk
theorem Ul.nfgrow {w w':World} {n:Nat} {l:List Ru} {v:Value} (h:Ul w (nf w n) l v) (hk:Below w.heap.size w w'):Ul w' (nf w' n) l v :=
 (h.imp (C:=nf w' n) fun b hb hlt=>⟨hb.1,fun o=>by rw[hk.frozen (p:=⟨b,o,none⟩) hlt];exact hb.2 o⟩).grow hk
theorem Tb.nfset {w:World} {n:Nat} {v:Value} {xs:List ByteArray} (h:Tb w (nf w n) v xs) {a:Addr} (ha:a.block<n) (u:Value):Tb (w.setCell a u) (nf (w.setCell a u) n) v xs :=
 (h.setCell (fun hb=>by have:=hb.1;omega) u).imp fun b hb _=>⟨hb.1,fun o=>by rw[World.frozen?_setCell];exact hb.2 o⟩
theorem Ul.nfset {w:World} {n:Nat} {l:List Ru} {v:Value} (h:Ul w (nf w n) l v) {a:Addr} (ha:a.block<n) (u:Value):Ul (w.setCell a u) (nf (w.setCell a u) n) l v :=
 (h.setCell (fun hb=>by have:=hb.1;omega) u).imp fun b hb _=>⟨hb.1,fun o=>by rw[World.frozen?_setCell];exact hb.2 o⟩
theorem Fl.nfset {w:World} {n:Nat} {l:List Fu} {v:Value} (h:Fl w (nf w n) l v) {a:Addr} (ha:a.block<n) (u:Value):Fl (w.setCell a u) (nf (w.setCell a u) n) l v :=
 (h.setCell (fun hb=>by have:=hb.1;omega) u).imp fun b hb _=>⟨hb.1,fun o=>by rw[World.frozen?_setCell];exact hb.2 o⟩
theorem OwnT.tbN {w:World} {n:Nat} {v:Value} {xs:List ByteArray} (h:OwnT w n v xs) (hs:∀ s∈xs,s.size<=maxLen):Tb w (nf w n) v xs:=by
 rcases id h.2 with⟨h1,h2⟩ | ⟨g,cap,cur,rfl,hb,hg,hn,hm,hsz,ht⟩
 ·obtain rfl:xs=[]:=List.length_eq_zero_iff.1 h2
  rw[h1];exact Tb.zero w _
 ·refine⟨some ⟨g,0,none⟩,cap,rfl,hn,hm,(fun h=>by cases h),hs,fun _=>⟨g,0,rfl,⟨hb,fun o=>?_⟩,fun k hk=>?_⟩⟩
  ·exact h.frozenAt o
  ·have:=h.cellAt k (by omega)
   rw[Nat.zero_add,this];simp[hk]
theorem toRule_any (t:Ru) (B:Nat->Prop) (x y:Value) (w:World) (hx:El w B t.p.l x) (hy:Sl w B t.a y) (hs:t.sz<=1048576) :
  Calls Tryz.prog 83 #[ruV t x y] w fun e w'=>∃ u v,e=.returned (ruV t u v)/\El w' (nf w' (w.heap.size+1)) t.p.l u/\Sl w' (nf w' (w.heap.size+1)) t.a v/\Below w.heap.size w w':=by
 have hz:t.sz=t.p.sz+szy t.a:=rfl;have hz2:=t.p.sz_eq;have HX:=Hid.mk (fun(w':World) (hw:Below w.heap.size w w')=>toExprF_any t.p B _ w' (hx.grow hw) (by omega));have HY:=Hid.mk (fun(w':World) (hw:Below w.heap.size w w')=>toStmtS_any t.a B _ w' (hy.grow hw) (by omega));obtain⟨xo,xcap,rfl,-,-,-⟩:=hx.len;obtain⟨yo,ycap,rfl,-,-,-⟩:=hy.len;clear hx hy;go_enter Tryz.func83,Tryz.ntmps83
 go_wp2_with fail
 refine(HX.out _ ?_).mono ?_
 ·exact((((Below.refl _ _).alloc (Nat.le_refl _) _).alloc (by simp) _).alloc (by simp <;> omega) _)
 rintro e w1 ⟨u1,rfl,hrx,hb1⟩;have ha1:=fun o=>hb1.cell (p:=⟨w.heap.size,o,none⟩) (by simp <;> omega);have hc1:=fun o=>hb1.cell (p:=⟨w.heap.size+1,o,none⟩) (by simp);have hd1:=fun o=>hb1.cell (p:=⟨w.heap.size+1+1,o,none⟩) (by simp);have hf1:=fun o=>hb1.frozen (p:=⟨w.heap.size+1,o,none⟩) (by simp);have hg1:=fun o=>hb1.frozen (p:=⟨w.heap.size+1+1,o,none⟩) (by simp);have s1:w.heap.size+3<=w1.heap.size:=by have:=hb1.size;simp at this;omega
 have B1:Hid (Below w.heap.size w w1):=((((Below.refl _ _).alloc (Nat.le_refl _) _).alloc (by simp) _).alloc (by simp <;> omega) _).trans (hb1.mono (by simp <;> omega));have HRX:=Hid.mk (hrx.imp (C:=nf w1 (w.heap.size+3)) fun b hb _=>⟨by have:=hb.1;simp at this;omega,hb.2⟩);obtain⟨xa,xc,rfl,-,-,-⟩:=HRX.out.len;clear hrx hb1 HX;go_wp2_with fail
 refine(HY.out _ (((((B1.out.setCell (by simp <;> omega) _).setCell (by simp <;> omega) _).setCell (by simp <;> omega) _).setCell (by simp <;> omega) _))).mono ?_;rintro e w2 ⟨u2,rfl,hry,hb2⟩;have hc2:=fun o=>hb2.cell (p:=⟨w.heap.size+1,o,none⟩) (by simp <;> omega);have hd2:=fun o=>hb2.cell (p:=⟨w.heap.size+1+1,o,none⟩) (by simp <;> omega);have hf2:=fun o=>hb2.frozen (p:=⟨w.heap.size+1,o,none⟩) (by simp <;> omega);have hg2:=fun o=>hb2.frozen (p:=⟨w.heap.size+1+1,o,none⟩) (by simp <;> omega);have s2:w.heap.size+3<=w2.heap.size:=by have:=hb2.size;simp at this;omega
 have B2:Hid (Below w.heap.size w w2):=(((((B1.out.setCell (by simp <;> omega) _).setCell (by simp <;> omega) _).setCell (by simp <;> omega) _).setCell (by simp <;> omega) _)).trans (hb2.mono (by simp <;> omega));have HRX2:=Hid.mk (((((HRX.out.nfset (a:=⟨w.heap.size+1+1,1,none⟩) (by simp <;> omega) (.int .i64 t.p.k)).nfset (a:=⟨w.heap.size+1+1,2,none⟩) (by simp <;> omega) (.int .i64 t.p.n)).nfset (a:=⟨w.heap.size+1+1,3,none⟩) (by simp <;> omega) (.string t.p.s)).nfset (a:=⟨w.heap.size+1+1,4,none⟩) (by simp <;> omega) (.slice xa t.p.l.length xc)).nfgrow hb2);have HRY:=Hid.mk (hry.imp (C:=nf w2 (w.heap.size+3)) fun b hb _=>⟨by have:=hb.1;simp at this;omega,hb.2⟩);obtain⟨ya,yc,rfl,-,-,-⟩:=HRY.out.len;clear hry hb2 HY HRX B1;have v0:w2.cell? ⟨w.heap.size+1+1,0,none⟩=some (.int .i64 t.k):=by go_simp
 have v1:w2.cell? ⟨w.heap.size+1+1,1,none⟩=some (.int .i64 t.p.k):=by go_simp
 have v2:w2.cell? ⟨w.heap.size+1+1,2,none⟩=some (.int .i64 t.p.n):=by go_simp
 have v3:w2.cell? ⟨w.heap.size+1+1,3,none⟩=some (.string t.p.s):=by go_simp
 have v4:w2.cell? ⟨w.heap.size+1+1,4,none⟩=some (.slice xa t.p.l.length xc):=by go_simp
 have v5:w2.cell? ⟨w.heap.size+1+1,5,none⟩=some (.slice none 0 0):=by go_simp
 have r0:w2.cell? ⟨w.heap.size+1,0,none⟩=some (.int .i64 0):=by go_simp
 have r1:w2.cell? ⟨w.heap.size+1,1,none⟩=some (.int .i64 0):=by go_simp
 have r2:w2.cell? ⟨w.heap.size+1,2,none⟩=some (.int .i64 0):=by go_simp
 have r3:w2.cell? ⟨w.heap.size+1,3,none⟩=some (.string ⟨#[]⟩):=by go_simp
 have r4:w2.cell? ⟨w.heap.size+1,4,none⟩=some (.slice none 0 0):=by go_simp
 have r5:w2.cell? ⟨w.heap.size+1,5,none⟩=some (.slice none 0 0):=by go_simp
 have q1:∀ o,w2.frozen? ⟨w.heap.size+1,o,none⟩=false:=by intro o;go_simp
 have q2:∀ o,w2.frozen? ⟨w.heap.size+1+1,o,none⟩=false:=by intro o;go_simp
 clear ha1 hc1 hd1 hf1 hg1 hc2 hd2 hf2 hg2 s1;go_wp2;have f0:(((((((w2.setCell ⟨w.heap.size+1+1,5,none⟩ (.slice ya t.a.length yc)).setCell ⟨w.heap.size+1,0,none⟩ (.int .i64 t.k)).setCell ⟨w.heap.size+1,1,none⟩ (.int .i64 t.p.k)).setCell ⟨w.heap.size+1,2,none⟩ (.int .i64 t.p.n)).setCell ⟨w.heap.size+1,3,none⟩ (.string t.p.s)).setCell ⟨w.heap.size+1,4,none⟩ (.slice xa t.p.l.length xc)).setCell ⟨w.heap.size+1,5,none⟩ (.slice ya t.a.length yc)).cell? ⟨w.heap.size+1,0,none⟩=some (.int .i64 t.k):=by go_simp
 have f1:(((((((w2.setCell ⟨w.heap.size+1+1,5,none⟩ (.slice ya t.a.length yc)).setCell ⟨w.heap.size+1,0,none⟩ (.int .i64 t.k)).setCell ⟨w.heap.size+1,1,none⟩ (.int .i64 t.p.k)).setCell ⟨w.heap.size+1,2,none⟩ (.int .i64 t.p.n)).setCell ⟨w.heap.size+1,3,none⟩ (.string t.p.s)).setCell ⟨w.heap.size+1,4,none⟩ (.slice xa t.p.l.length xc)).setCell ⟨w.heap.size+1,5,none⟩ (.slice ya t.a.length yc)).cell? ⟨w.heap.size+1,1,none⟩=some (.int .i64 t.p.k):=by go_simp
 have f2:(((((((w2.setCell ⟨w.heap.size+1+1,5,none⟩ (.slice ya t.a.length yc)).setCell ⟨w.heap.size+1,0,none⟩ (.int .i64 t.k)).setCell ⟨w.heap.size+1,1,none⟩ (.int .i64 t.p.k)).setCell ⟨w.heap.size+1,2,none⟩ (.int .i64 t.p.n)).setCell ⟨w.heap.size+1,3,none⟩ (.string t.p.s)).setCell ⟨w.heap.size+1,4,none⟩ (.slice xa t.p.l.length xc)).setCell ⟨w.heap.size+1,5,none⟩ (.slice ya t.a.length yc)).cell? ⟨w.heap.size+1,2,none⟩=some (.int .i64 t.p.n):=by go_simp
 have f3:(((((((w2.setCell ⟨w.heap.size+1+1,5,none⟩ (.slice ya t.a.length yc)).setCell ⟨w.heap.size+1,0,none⟩ (.int .i64 t.k)).setCell ⟨w.heap.size+1,1,none⟩ (.int .i64 t.p.k)).setCell ⟨w.heap.size+1,2,none⟩ (.int .i64 t.p.n)).setCell ⟨w.heap.size+1,3,none⟩ (.string t.p.s)).setCell ⟨w.heap.size+1,4,none⟩ (.slice xa t.p.l.length xc)).setCell ⟨w.heap.size+1,5,none⟩ (.slice ya t.a.length yc)).cell? ⟨w.heap.size+1,3,none⟩=some (.string t.p.s):=by go_simp
 have f4:(((((((w2.setCell ⟨w.heap.size+1+1,5,none⟩ (.slice ya t.a.length yc)).setCell ⟨w.heap.size+1,0,none⟩ (.int .i64 t.k)).setCell ⟨w.heap.size+1,1,none⟩ (.int .i64 t.p.k)).setCell ⟨w.heap.size+1,2,none⟩ (.int .i64 t.p.n)).setCell ⟨w.heap.size+1,3,none⟩ (.string t.p.s)).setCell ⟨w.heap.size+1,4,none⟩ (.slice xa t.p.l.length xc)).setCell ⟨w.heap.size+1,5,none⟩ (.slice ya t.a.length yc)).cell? ⟨w.heap.size+1,4,none⟩=some (.slice xa t.p.l.length xc):=by go_simp
 have f5:(((((((w2.setCell ⟨w.heap.size+1+1,5,none⟩ (.slice ya t.a.length yc)).setCell ⟨w.heap.size+1,0,none⟩ (.int .i64 t.k)).setCell ⟨w.heap.size+1,1,none⟩ (.int .i64 t.p.k)).setCell ⟨w.heap.size+1,2,none⟩ (.int .i64 t.p.n)).setCell ⟨w.heap.size+1,3,none⟩ (.string t.p.s)).setCell ⟨w.heap.size+1,4,none⟩ (.slice xa t.p.l.length xc)).setCell ⟨w.heap.size+1,5,none⟩ (.slice ya t.a.length yc)).cell? ⟨w.heap.size+1,5,none⟩=some (.slice ya t.a.length yc):=by go_simp
 refine bodyPost_ret (v:=ruV t (.slice xa t.p.l.length xc) (.slice ya t.a.length yc)) ?_ rfl ⟨_,_,rfl,?_,?_,?_⟩
 ·generalize (((((((w2.setCell ⟨w.heap.size+1+1,5,none⟩ (.slice ya t.a.length yc)).setCell ⟨w.heap.size+1,0,none⟩ (.int .i64 t.k)).setCell ⟨w.heap.size+1,1,none⟩ (.int .i64 t.p.k)).setCell ⟨w.heap.size+1,2,none⟩ (.int .i64 t.p.n)).setCell ⟨w.heap.size+1,3,none⟩ (.string t.p.s)).setCell ⟨w.heap.size+1,4,none⟩ (.slice xa t.p.l.length xc)).setCell ⟨w.heap.size+1,5,none⟩ (.slice ya t.a.length yc))=W at f0 f1 f2 f3 f4 f5
  simp[results,Tryz.results83,go_sem,f0,f1,f2,f3,f4,f5]
 ·exact(((((((HRX2.out.nfset (by simp <;> omega) _).nfset (by simp <;> omega) _).nfset (by simp <;> omega) _).nfset (by simp <;> omega) _).nfset (by simp <;> omega) _).nfset (by simp <;> omega) _).nfset (by simp <;> omega) _).imp (fun b hb _=>⟨by have:=hb.1;omega,hb.2⟩)
 ·exact(((((((HRY.out.nfset (by simp <;> omega) _).nfset (by simp <;> omega) _).nfset (by simp <;> omega) _).nfset (by simp <;> omega) _).nfset (by simp <;> omega) _).nfset (by simp <;> omega) _).nfset (by simp <;> omega) _).imp (fun b hb _=>⟨by have:=hb.1;omega,hb.2⟩)
 ·exact(((((((B2.out.setCell (by simp <;> omega) _).setCell (by simp <;> omega) _).setCell (by simp <;> omega) _).setCell (by simp <;> omega) _).setCell (by simp <;> omega) _).setCell (by simp <;> omega) _).setCell (by simp <;> omega) _)
theorem toFn_any (t:Fu) (B:Nat->Prop) (x y:Value) (w:World) (hx:Tb w B x t.ps) (hy:Sl w B t.a y) (hs:t.sz<=1048576) :
  Calls Tryz.prog 84 #[fuV t x y] w fun e w'=>∃ u v,e=.returned (fuV t u v)/\Tb w' (nf w' (w.heap.size+1)) u t.ps/\Sl w' (nf w' (w.heap.size+1)) t.a v/\Below w.heap.size w w':=by
 have hz:t.sz=t.n.size+gsz ByteArray.size t.ps+szy t.a:=rfl;have hz2:=gsz_length ByteArray.size t.ps;have hps:∀ s∈t.ps,s.size<=maxLen:=by obtain⟨_,_,_,_,_,_,h,_⟩:=hx;exact h
 have HX:=Hid.mk (fun(w':World) (hw:Below w.heap.size w w')=>toStringS_any _ t.ps w' (hx.grow hw).tz (by omega));have HY:=Hid.mk (fun(w':World) (hw:Below w.heap.size w w')=>toStmtS_any t.a B _ w' (hy.grow hw) (by omega));obtain⟨xo,xcap,rfl,-,-,-⟩:=hx.len;obtain⟨yo,ycap,rfl,-,-,-⟩:=hy.len;clear hx hy;go_enter Tryz.func84,Tryz.ntmps84
 go_wp2_with fail
 refine(HX.out _ ?_).mono ?_
 ·exact((((Below.refl _ _).alloc (Nat.le_refl _) _).alloc (by simp) _).alloc (by simp <;> omega) _)
 rintro e w1 ⟨u1,rfl,hrx,hb1⟩;have ha1:=fun o=>hb1.cell (p:=⟨w.heap.size,o,none⟩) (by simp <;> omega);have hc1:=fun o=>hb1.cell (p:=⟨w.heap.size+1,o,none⟩) (by simp);have hd1:=fun o=>hb1.cell (p:=⟨w.heap.size+1+1,o,none⟩) (by simp);have hf1:=fun o=>hb1.frozen (p:=⟨w.heap.size+1,o,none⟩) (by simp);have hg1:=fun o=>hb1.frozen (p:=⟨w.heap.size+1+1,o,none⟩) (by simp);have s1:w.heap.size+3<=w1.heap.size:=by have:=hb1.size;simp at this;omega
 have B1:Hid (Below w.heap.size w w1):=((((Below.refl _ _).alloc (Nat.le_refl _) _).alloc (by simp) _).alloc (by simp <;> omega) _).trans (hb1.mono (by simp <;> omega));have HRX:=Hid.mk ((hrx.tbN hps).imp (C:=nf w1 (w.heap.size+3)) fun b hb _=>⟨by have:=hb.1;simp at this;omega,hb.2⟩);obtain⟨xa,xc,rfl,-,-,-⟩:=HRX.out.len;clear hrx hb1 HX;go_wp2_with fail
 refine(HY.out _ ((B1.out.setCell (by simp <;> omega) _))).mono ?_;rintro e w2 ⟨u2,rfl,hry,hb2⟩;have hc2:=fun o=>hb2.cell (p:=⟨w.heap.size+1,o,none⟩) (by simp <;> omega);have hd2:=fun o=>hb2.cell (p:=⟨w.heap.size+1+1,o,none⟩) (by simp <;> omega);have hf2:=fun o=>hb2.frozen (p:=⟨w.heap.size+1,o,none⟩) (by simp <;> omega);have hg2:=fun o=>hb2.frozen (p:=⟨w.heap.size+1+1,o,none⟩) (by simp <;> omega);have s2:w.heap.size+3<=w2.heap.size:=by have:=hb2.size;simp at this;omega
 have B2:Hid (Below w.heap.size w w2):=((B1.out.setCell (by simp <;> omega) _)).trans (hb2.mono (by simp <;> omega));have HRX2:=Hid.mk ((HRX.out.nfset (a:=⟨w.heap.size+1+1,1,none⟩) (by simp <;> omega) (.slice xa t.ps.length xc)).nfgrow hb2);have HRY:=Hid.mk (hry.imp (C:=nf w2 (w.heap.size+3)) fun b hb _=>⟨by have:=hb.1;simp at this;omega,hb.2⟩);obtain⟨ya,yc,rfl,-,-,-⟩:=HRY.out.len;clear hry hb2 HY HRX B1;have v0:w2.cell? ⟨w.heap.size+1+1,0,none⟩=some (.string t.n):=by go_simp
 have v1:w2.cell? ⟨w.heap.size+1+1,1,none⟩=some (.slice xa t.ps.length xc):=by go_simp
 have v2:w2.cell? ⟨w.heap.size+1+1,2,none⟩=some (.slice none 0 0):=by go_simp
 have r0:w2.cell? ⟨w.heap.size+1,0,none⟩=some (.string ⟨#[]⟩):=by go_simp
 have r1:w2.cell? ⟨w.heap.size+1,1,none⟩=some (.slice none 0 0):=by go_simp
 have r2:w2.cell? ⟨w.heap.size+1,2,none⟩=some (.slice none 0 0):=by go_simp
 have q1:∀ o,w2.frozen? ⟨w.heap.size+1,o,none⟩=false:=by intro o;go_simp
 have q2:∀ o,w2.frozen? ⟨w.heap.size+1+1,o,none⟩=false:=by intro o;go_simp
 clear ha1 hc1 hd1 hf1 hg1 hc2 hd2 hf2 hg2 s1;go_wp2;have f0:((((w2.setCell ⟨w.heap.size+1+1,2,none⟩ (.slice ya t.a.length yc)).setCell ⟨w.heap.size+1,0,none⟩ (.string t.n)).setCell ⟨w.heap.size+1,1,none⟩ (.slice xa t.ps.length xc)).setCell ⟨w.heap.size+1,2,none⟩ (.slice ya t.a.length yc)).cell? ⟨w.heap.size+1,0,none⟩=some (.string t.n):=by go_simp
 have f1:((((w2.setCell ⟨w.heap.size+1+1,2,none⟩ (.slice ya t.a.length yc)).setCell ⟨w.heap.size+1,0,none⟩ (.string t.n)).setCell ⟨w.heap.size+1,1,none⟩ (.slice xa t.ps.length xc)).setCell ⟨w.heap.size+1,2,none⟩ (.slice ya t.a.length yc)).cell? ⟨w.heap.size+1,1,none⟩=some (.slice xa t.ps.length xc):=by go_simp
 have f2:((((w2.setCell ⟨w.heap.size+1+1,2,none⟩ (.slice ya t.a.length yc)).setCell ⟨w.heap.size+1,0,none⟩ (.string t.n)).setCell ⟨w.heap.size+1,1,none⟩ (.slice xa t.ps.length xc)).setCell ⟨w.heap.size+1,2,none⟩ (.slice ya t.a.length yc)).cell? ⟨w.heap.size+1,2,none⟩=some (.slice ya t.a.length yc):=by go_simp
 refine bodyPost_ret (v:=fuV t (.slice xa t.ps.length xc) (.slice ya t.a.length yc)) ?_ rfl ⟨_,_,rfl,?_,?_,?_⟩
 ·generalize ((((w2.setCell ⟨w.heap.size+1+1,2,none⟩ (.slice ya t.a.length yc)).setCell ⟨w.heap.size+1,0,none⟩ (.string t.n)).setCell ⟨w.heap.size+1,1,none⟩ (.slice xa t.ps.length xc)).setCell ⟨w.heap.size+1,2,none⟩ (.slice ya t.a.length yc))=W at f0 f1 f2
  simp[results,Tryz.results84,go_sem,f0,f1,f2]
 ·exact((((HRX2.out.nfset (by simp <;> omega) _).nfset (by simp <;> omega) _).nfset (by simp <;> omega) _).nfset (by simp <;> omega) _).imp (fun b hb _=>⟨by have:=hb.1;omega,hb.2⟩)
 ·exact((((HRY.out.nfset (by simp <;> omega) _).nfset (by simp <;> omega) _).nfset (by simp <;> omega) _).nfset (by simp <;> omega) _).imp (fun b hb _=>⟨by have:=hb.1;omega,hb.2⟩)
 ·exact((((B2.out.setCell (by simp <;> omega) _).setCell (by simp <;> omega) _).setCell (by simp <;> omega) _).setCell (by simp <;> omega) _)
def FilU (wr:World) (g:Nat) (e:TypeId) (l:List Ru) (k:Nat):Prop :=
 ∃ (xs:List Value) (X Y:Nat->Value),wr.ownsRow g e 6 (.slice (some ⟨g,0,none⟩) l.length l.length) l.length xs /\
  ∀ i (h:i<l.length),i<k->(xs[i*6]?=some (.int .i64 l[i].k)/\xs[i*6+1]?=some (.int .i64 l[i].p.k)/\xs[i*6+2]?=some (.int .i64 l[i].p.n)/\xs[i*6+3]?=some (.string l[i].p.s)/\xs[i*6+4]?=some (X i)/\xs[i*6+5]?=some (Y i))/\El wr (nf wr (g+1)) l[i].p.l (X i)/\Sl wr (nf wr (g+1)) l[i].a (Y i)
theorem FilU.grow {w w':World} {g:Nat} {e:TypeId} {l:List Ru} {k:Nat} (h:FilU w g e l k) (hk:Below w.heap.size w w'):FilU w' g e l k:=by
 obtain⟨xs,X,Y,ho,hr⟩:=h;exact⟨xs,X,Y,own_grow ho hk,fun i h1 h2=>⟨(hr i h1 h2).1,(hr i h1 h2).2.1.nfgrow hk,(hr i h1 h2).2.2.nfgrow hk⟩⟩
theorem FilU.step {w:World} {g:Nat} {e:TypeId} {l:List Ru} {k:Nat} (h:FilU w g e l k) (hk:k<l.length) {u v:Value} (hx:El w (nf w (g+1)) l[k].p.l u) (hy:Sl w (nf w (g+1)) l[k].a v) :
  FilU ((((((w.setCell ⟨g,k*6,none⟩ (.int .i64 l[k].k)).setCell ⟨g,k*6+1,none⟩ (.int .i64 l[k].p.k)).setCell ⟨g,k*6+2,none⟩ (.int .i64 l[k].p.n)).setCell ⟨g,k*6+3,none⟩ (.string l[k].p.s)).setCell ⟨g,k*6+4,none⟩ u).setCell ⟨g,k*6+5,none⟩ v) g e l (k+1):=by
 obtain⟨xs,X,Y,ho,hr⟩:=h;have o1:=(ho.stored (k*6) (.int .i64 l[k].k)).1;have o2:=(o1.stored (k*6+1) (.int .i64 l[k].p.k)).1;have o3:=(o2.stored (k*6+2) (.int .i64 l[k].p.n)).1;have o4:=(o3.stored (k*6+3) (.string l[k].p.s)).1;have o5:=(o4.stored (k*6+4) u).1;have o6:=(o5.stored (k*6+5) v).1;have hl:xs.length=l.length*6:=ho.1;refine⟨_,fun i=>if i=k then u else X i,fun i=>if i=k then v else Y i,o6,fun i hi hik=>?_⟩;have hn:g<g+1:=by omega
 by_cases he:i=k
 ·subst he
  simp only[if_true];refine⟨⟨?_,?_,?_,?_,?_,?_⟩,((((((hx.nfset hn _).nfset hn _).nfset hn _).nfset hn _).nfset hn _).nfset hn _),((((((hy.nfset hn _).nfset hn _).nfset hn _).nfset hn _).nfset hn _).nfset hn _)⟩
  ·rw[List.getElem?_set_ne (by omega),List.getElem?_set_ne (by omega),List.getElem?_set_ne (by omega),List.getElem?_set_ne (by omega),List.getElem?_set_ne (by omega),List.getElem?_set_self (by omega)]
  ·rw[List.getElem?_set_ne (by omega),List.getElem?_set_ne (by omega),List.getElem?_set_ne (by omega),List.getElem?_set_ne (by omega),List.getElem?_set_self (by simp;omega)]
  ·rw[List.getElem?_set_ne (by omega),List.getElem?_set_ne (by omega),List.getElem?_set_ne (by omega),List.getElem?_set_self (by simp;omega)]
  ·rw[List.getElem?_set_ne (by omega),List.getElem?_set_ne (by omega),List.getElem?_set_self (by simp;omega)]
  ·rw[List.getElem?_set_ne (by omega),List.getElem?_set_self (by simp;omega)]
  ·rw[List.getElem?_set_self (by simp;omega)]
 ·obtain⟨⟨x0,x1,x2,x3,x4,x5⟩,y1,y2⟩:=hr i hi (by omega)
  simp only[if_neg he];refine⟨⟨?_,?_,?_,?_,?_,?_⟩,((((((y1.nfset hn _).nfset hn _).nfset hn _).nfset hn _).nfset hn _).nfset hn _),((((((y2.nfset hn _).nfset hn _).nfset hn _).nfset hn _).nfset hn _).nfset hn _)⟩
  ·rw[List.getElem?_set_ne (by omega),List.getElem?_set_ne (by omega),List.getElem?_set_ne (by omega),List.getElem?_set_ne (by omega),List.getElem?_set_ne (by omega),List.getElem?_set_ne (by omega)];exact x0
  ·rw[List.getElem?_set_ne (by omega),List.getElem?_set_ne (by omega),List.getElem?_set_ne (by omega),List.getElem?_set_ne (by omega),List.getElem?_set_ne (by omega),List.getElem?_set_ne (by omega)];exact x1
  ·rw[List.getElem?_set_ne (by omega),List.getElem?_set_ne (by omega),List.getElem?_set_ne (by omega),List.getElem?_set_ne (by omega),List.getElem?_set_ne (by omega),List.getElem?_set_ne (by omega)];exact x2
  ·rw[List.getElem?_set_ne (by omega),List.getElem?_set_ne (by omega),List.getElem?_set_ne (by omega),List.getElem?_set_ne (by omega),List.getElem?_set_ne (by omega),List.getElem?_set_ne (by omega)];exact x3
  ·rw[List.getElem?_set_ne (by omega),List.getElem?_set_ne (by omega),List.getElem?_set_ne (by omega),List.getElem?_set_ne (by omega),List.getElem?_set_ne (by omega),List.getElem?_set_ne (by omega)];exact x4
  ·rw[List.getElem?_set_ne (by omega),List.getElem?_set_ne (by omega),List.getElem?_set_ne (by omega),List.getElem?_set_ne (by omega),List.getElem?_set_ne (by omega),List.getElem?_set_ne (by omega)];exact x5
theorem FilU.whole {w:World} {g:Nat} {e:TypeId} {l:List Ru} (h:FilU w g e l l.length) (hm:l.length<=maxLen) (hs:∀ i (h:i<l.length),l[i].p.s.size<=maxLen) :
  Ul w (nf w g) l (.slice (some ⟨g,0,none⟩) l.length l.length):=by
 obtain⟨xs,X,Y,ho,hr⟩:=h;refine⟨some ⟨g,0,none⟩,l.length,rfl,Nat.le_refl _,hm,(fun h=>by cases h),fun hl=>⟨g,0,X,Y,rfl,⟨Nat.le_refl _,fun o=>ho.frozenAt o⟩,fun i hi=>?_⟩⟩;obtain⟨⟨x0,x1,x2,x3,x4,x5⟩,y1,y2⟩:=hr i hi hi;rw[Nat.zero_add];exact⟨⟨by rw[ho.cellAt _ (by omega),x0],by rw[ho.cellAt _ (by omega),x1],by rw[ho.cellAt _ (by omega),x2],by rw[ho.cellAt _ (by omega),x3],by rw[ho.cellAt _ (by omega),x4],by rw[ho.cellAt _ (by omega),x5]⟩,y1.imp fun b hb _=>⟨by have:=hb.1;omega,hb.2⟩,y2.imp fun b hb _=>⟨by have:=hb.1;omega,hb.2⟩,hs i hi⟩
theorem infoRule:(Tryz.prog.info? 56).map (fun i=>(i.zero,i.size,i.bytes))=some (some (.agg #[.int .i64 0,.int .i64 0,.int .i64 0,.string ⟨#[]⟩,.slice none 0 0,.slice none 0 0]),6,88):=by kernel_rfl
theorem toRuleS_any (l:List Ru) (B:Nat->Prop) (v:Value) (w:World) (h:Ul w B l v) (hsz:gsz Ru.sz l<=1048576) :
  Calls Tryz.prog 48 #[v] w fun e w'=>∃ u,e=.returned u/\Ul w' (nf w' w.heap.size) l u/\Below w.heap.size w w':=by
 have hS:l≠[]->∀ i (h:i<l.length),l[i].p.s.size<=maxLen:=by
  intro hl i hi;obtain⟨ao,cap,rfl,-⟩:=h.len;obtain⟨_,_,_,_,_,hel⟩:=h.elems hl;exact(hel i hi).2.2.2
 obtain⟨ao,cap,rfl,hl1,hl2,hl3⟩:=h.len;have hlen:=gsz_length Ru.sz l;obtain⟨i0,hi,hz0,hz1,hz2⟩:=info_parts infoRule;have HH:=Hid.mk h;have HS:=Hid.mk hS;have hln:l.length<=1048576:=by omega
 clear h hl2 hS;go_enter Tryz.func48,Tryz.ntmps48
 go_wp2_with (at_make;refine wpList_make_full _ rfl _ _ 24 rfl w.heap.size 56 i0 _ 6 Tryz.underlying24 hi hz0 hz1 _ _ _ _ l.length rfl rfl rfl rfl (by rw[hz2];omega) (by unfold maxLen;omega) (by simp) ?_)
 intro w1 hown hgrow;have hbel:Below w.heap.size w w1:=(Below.refl _ _).grown hgrow (Nat.le_refl _) (by simp);have hg1:w.heap.size<w1.heap.size:=(World.ownsRow.lt hown _ rfl).2;have HF:FilU w1 w.heap.size 56 l 0:=⟨_,fun _=>.bool true,fun _=>.bool true,hown,fun i _ h=>absurd h (Nat.not_lt_zero i)⟩;clear hgrow hown hi hz0 hz1 hz2;go_wp2;go_loopw [4] (fun i wr=>∃ (k:Nat),k<=l.length/\i=.int .i64 k/\Hid (FilU wr w.heap.size 56 l k)/\Below w.heap.size w wr/\w.heap.size<wr.heap.size) (fun i _=>l.length-(intOf i).toNat)
 case atStart=>exact⟨0,Nat.zero_le _,rfl,HF,hbel,hg1⟩
 case round =>
  obtain⟨k,hk,rfl,HFr,hbelr,hgr⟩:=hrel;clear HF hbel hg1;by_cases hkl:k<l.length
  ·obtain⟨b,off,X,Y,rfl,hel⟩:=HH.out.elems (by intro hn;rw[hn] at hkl;simp at hkl)
   obtain⟨h3,hx,hy,hss⟩:=hel k hkl;have hsk:l[k].sz<=1048576:=(by have:=gsz_mem Ru.sz (List.getElem_mem hkl);omega);have HST:=Hid.mk (fun(w2:World) (u v:Value) (h1:FilU w2 w.heap.size 56 l k) h2 h3=>h1.step hkl (u:=u) (v:=v) h2 h3);obtain⟨t,ht⟩:∃ t,l[k]=t:=⟨_,rfl⟩;rw[ht] at h3 hx hy hss hsk HST;clear ht hel;obtain⟨c0,c1,c2,c3,c4,c5⟩:=h3.kept (w':=wr) (hbelr.block b (World.block_lt_of_cell? w _ h3.1));have HC:=Hid.mk (toRule_any t B (X k) (Y k) wr (hx.grow hbelr) (hy.grow hbelr) hsk);have hi1:(k:Int)<(l.length:Int):=(by omega);clear hx hy hss h3 HH;go_wp2_with fail
   refine HC.out.mono ?_;rintro e w2 ⟨u,v,rfl,hrx,hry,hb2⟩;have HF2:=HFr.out.grow hb2;have H3:=Hid.mk (HST.out w2 u v HF2 (hrx.imp fun b hb _=>⟨by have:=hb.1;omega,hb.2⟩) (hry.imp fun b hb _=>⟨by have:=hb.1;omega,hb.2⟩));have B2:=hbelr.trans (hb2.mono hbelr.size);have hg2:w.heap.size<w2.heap.size:=Nat.lt_of_lt_of_le hgr hb2.size;obtain⟨xs,_,_,hown2,-⟩:=HF2;have hxl:xs.length=l.length*6:=hown2.1;have f0:=hown2.frozenAt (k*6);have o0:=hown2.cellAt (k*6) (by omega);obtain⟨y0,e0⟩:∃ y,xs[k*6]?=some y:=⟨_,List.getElem?_eq_getElem (by omega)⟩;rw[e0] at o0;have f1:=hown2.frozenAt (k*6+1);have o1:=hown2.cellAt (k*6+1) (by omega);obtain⟨y1,e1⟩:∃ y,xs[k*6+1]?=some y:=⟨_,List.getElem?_eq_getElem (by omega)⟩;rw[e1] at o1;have f2:=hown2.frozenAt (k*6+2);have o2:=hown2.cellAt (k*6+2) (by omega);obtain⟨y2,e2⟩:∃ y,xs[k*6+2]?=some y:=⟨_,List.getElem?_eq_getElem (by omega)⟩;rw[e2] at o2;have f3:=hown2.frozenAt (k*6+3);have o3:=hown2.cellAt (k*6+3) (by omega);obtain⟨y3,e3⟩:∃ y,xs[k*6+3]?=some y:=⟨_,List.getElem?_eq_getElem (by omega)⟩;rw[e3] at o3;have f4:=hown2.frozenAt (k*6+4);have o4:=hown2.cellAt (k*6+4) (by omega);obtain⟨y4,e4⟩:∃ y,xs[k*6+4]?=some y:=⟨_,List.getElem?_eq_getElem (by omega)⟩;rw[e4] at o4;have f5:=hown2.frozenAt (k*6+5);have o5:=hown2.cellAt (k*6+5) (by omega);obtain⟨y5,e5⟩:∃ y,xs[k*6+5]?=some y:=⟨_,List.getElem?_eq_getElem (by omega)⟩;rw[e5] at o5;clear e0 e1 e2 e3 e4 e5;obtain⟨xa,xc,rfl,-,-,-⟩:=hrx.len;obtain⟨ya,yc,rfl,-,-,-⟩:=hry.len;have hk0:0<l.length:=(by omega);clear hown2 HFr HC HST hb2 hbelr hrx hry c0 c1 c2 c3 c4 c5 hxl;go_wp2;go_roundw
   case rel=>exact⟨k+1,by omega,by go_num,H3,((((((B2.setCell (Nat.le_refl _) _).setCell (Nat.le_refl _) _).setCell (Nat.le_refl _) _).setCell (Nat.le_refl _) _).setCell (Nat.le_refl _) _).setCell (Nat.le_refl _) _),by simpa using hg2⟩
   case measure=>simp[intOf];omega
  ·have e:k=l.length:=by omega
   subst e;have HR:=Hid.mk (fun hS=>HFr.out.whole (by unfold maxLen;omega) hS);have HR2:Hid (Ul wr (nf wr w.heap.size) l (.slice (some ⟨w.heap.size,0,none⟩) l.length l.length)):=HR.out (by
    intro i hi;exact HS.out (by intro hn;rw[hn] at hi;simp at hi) i hi)
   clear HR HFr HS HH;go_wp2;go_ret;exact⟨_,rfl,HR2.out,hbelr⟩
def FilF2 (wr:World) (g:Nat) (e:TypeId) (l:List Fu) (k:Nat):Prop :=
 ∃ (xs:List Value) (X Y:Nat->Value),wr.ownsRow g e 3 (.slice (some ⟨g,0,none⟩) l.length l.length) l.length xs /\
  ∀ i (h:i<l.length),i<k->(xs[i*3]?=some (.string l[i].n)/\xs[i*3+1]?=some (X i)/\xs[i*3+2]?=some (Y i))/\Tb wr (nf wr (g+1)) (X i) l[i].ps/\Sl wr (nf wr (g+1)) l[i].a (Y i)
theorem FilF2.grow {w w':World} {g:Nat} {e:TypeId} {l:List Fu} {k:Nat} (h:FilF2 w g e l k) (hk:Below w.heap.size w w'):FilF2 w' g e l k:=by
 obtain⟨xs,X,Y,ho,hr⟩:=h;exact⟨xs,X,Y,own_grow ho hk,fun i h1 h2=>⟨(hr i h1 h2).1,(hr i h1 h2).2.1.nfgrow hk,(hr i h1 h2).2.2.nfgrow hk⟩⟩
theorem FilF2.step {w:World} {g:Nat} {e:TypeId} {l:List Fu} {k:Nat} (h:FilF2 w g e l k) (hk:k<l.length) {u v:Value} (hx:Tb w (nf w (g+1)) u l[k].ps) (hy:Sl w (nf w (g+1)) l[k].a v) :
  FilF2 (((w.setCell ⟨g,k*3,none⟩ (.string l[k].n)).setCell ⟨g,k*3+1,none⟩ u).setCell ⟨g,k*3+2,none⟩ v) g e l (k+1):=by
 obtain⟨xs,X,Y,ho,hr⟩:=h;have o1:=(ho.stored (k*3) (.string l[k].n)).1;have o2:=(o1.stored (k*3+1) u).1;have o3:=(o2.stored (k*3+2) v).1;have hl:xs.length=l.length*3:=ho.1;refine⟨_,fun i=>if i=k then u else X i,fun i=>if i=k then v else Y i,o3,fun i hi hik=>?_⟩;have hn:g<g+1:=by omega
 by_cases he:i=k
 ·subst he
  simp only[if_true];refine⟨⟨?_,?_,?_⟩,(((hx.nfset hn _).nfset hn _).nfset hn _),(((hy.nfset hn _).nfset hn _).nfset hn _)⟩
  ·rw[List.getElem?_set_ne (by omega),List.getElem?_set_ne (by omega),List.getElem?_set_self (by omega)]
  ·rw[List.getElem?_set_ne (by omega),List.getElem?_set_self (by simp;omega)]
  ·rw[List.getElem?_set_self (by simp;omega)]
 ·obtain⟨⟨x0,x1,x2⟩,y1,y2⟩:=hr i hi (by omega)
  simp only[if_neg he];refine⟨⟨?_,?_,?_⟩,(((y1.nfset hn _).nfset hn _).nfset hn _),(((y2.nfset hn _).nfset hn _).nfset hn _)⟩
  ·rw[List.getElem?_set_ne (by omega),List.getElem?_set_ne (by omega),List.getElem?_set_ne (by omega)];exact x0
  ·rw[List.getElem?_set_ne (by omega),List.getElem?_set_ne (by omega),List.getElem?_set_ne (by omega)];exact x1
  ·rw[List.getElem?_set_ne (by omega),List.getElem?_set_ne (by omega),List.getElem?_set_ne (by omega)];exact x2
theorem FilF2.whole {w:World} {g:Nat} {e:TypeId} {l:List Fu} (h:FilF2 w g e l l.length) (hm:l.length<=maxLen) (hs:∀ i (h:i<l.length),l[i].n.size<=maxLen) :
  Fl w (nf w g) l (.slice (some ⟨g,0,none⟩) l.length l.length):=by
 obtain⟨xs,X,Y,ho,hr⟩:=h;refine⟨some ⟨g,0,none⟩,l.length,rfl,Nat.le_refl _,hm,(fun h=>by cases h),fun hl=>⟨g,0,X,Y,rfl,⟨Nat.le_refl _,fun o=>ho.frozenAt o⟩,fun i hi=>?_⟩⟩;obtain⟨⟨x0,x1,x2⟩,y1,y2⟩:=hr i hi hi;rw[Nat.zero_add];exact⟨⟨by rw[ho.cellAt _ (by omega),x0],by rw[ho.cellAt _ (by omega),x1],by rw[ho.cellAt _ (by omega),x2]⟩,y1.imp fun b hb _=>⟨by have:=hb.1;omega,hb.2⟩,y2.imp fun b hb _=>⟨by have:=hb.1;omega,hb.2⟩,hs i hi⟩
theorem infoFn:(Tryz.prog.info? 71).map (fun i=>(i.zero,i.size,i.bytes))=some (some (.agg #[.string ⟨#[]⟩,.slice none 0 0,.slice none 0 0]),3,64):=by kernel_rfl
theorem toFnS_any (l:List Fu) (B:Nat->Prop) (v:Value) (w:World) (h:Fl w B l v) (hsz:gsz Fu.sz l<=1048576) :
  Calls Tryz.prog 49 #[v] w fun e w'=>∃ u,e=.returned u/\Fl w' (nf w' w.heap.size) l u/\Below w.heap.size w w':=by
 have hS:l≠[]->∀ i (h:i<l.length),l[i].n.size<=maxLen:=by
  intro hl i hi;obtain⟨ao,cap,rfl,-⟩:=h.len;obtain⟨_,_,_,_,_,hel⟩:=h.elems hl;exact(hel i hi).2.2.2
 obtain⟨ao,cap,rfl,hl1,hl2,hl3⟩:=h.len;have hlen:=gsz_length Fu.sz l;obtain⟨i0,hi,hz0,hz1,hz2⟩:=info_parts infoFn;have HH:=Hid.mk h;have HS:=Hid.mk hS;have hln:l.length<=1048576:=by omega
 clear h hl2 hS;go_enter Tryz.func49,Tryz.ntmps49
 go_wp2_with (at_make;refine wpList_make_full _ rfl _ _ 25 rfl w.heap.size 71 i0 _ 3 Tryz.underlying25 hi hz0 hz1 _ _ _ _ l.length rfl rfl rfl rfl (by rw[hz2];omega) (by unfold maxLen;omega) (by simp) ?_)
 intro w1 hown hgrow;have hbel:Below w.heap.size w w1:=(Below.refl _ _).grown hgrow (Nat.le_refl _) (by simp);have hg1:w.heap.size<w1.heap.size:=(World.ownsRow.lt hown _ rfl).2;have HF:FilF2 w1 w.heap.size 71 l 0:=⟨_,fun _=>.bool true,fun _=>.bool true,hown,fun i _ h=>absurd h (Nat.not_lt_zero i)⟩;clear hgrow hown hi hz0 hz1 hz2;go_wp2;go_loopw [4] (fun i wr=>∃ (k:Nat),k<=l.length/\i=.int .i64 k/\Hid (FilF2 wr w.heap.size 71 l k)/\Below w.heap.size w wr/\w.heap.size<wr.heap.size) (fun i _=>l.length-(intOf i).toNat)
 case atStart=>exact⟨0,Nat.zero_le _,rfl,HF,hbel,hg1⟩
 case round =>
  obtain⟨k,hk,rfl,HFr,hbelr,hgr⟩:=hrel;clear HF hbel hg1;by_cases hkl:k<l.length
  ·obtain⟨b,off,X,Y,rfl,hel⟩:=HH.out.elems (by intro hn;rw[hn] at hkl;simp at hkl)
   obtain⟨h3,hx,hy,hss⟩:=hel k hkl;have hsk:l[k].sz<=1048576:=(by have:=gsz_mem Fu.sz (List.getElem_mem hkl);omega);have HST:=Hid.mk (fun(w2:World) (u v:Value) (h1:FilF2 w2 w.heap.size 71 l k) h2 h3=>h1.step hkl (u:=u) (v:=v) h2 h3);obtain⟨t,ht⟩:∃ t,l[k]=t:=⟨_,rfl⟩;rw[ht] at h3 hx hy hss hsk HST;clear ht hel;obtain⟨c0,c1,c2⟩:=h3.kept (w':=wr) (hbelr.block b (World.block_lt_of_cell? w _ h3.1));have HC:=Hid.mk (toFn_any t B (X k) (Y k) wr (hx.grow hbelr) (hy.grow hbelr) hsk);have hi1:(k:Int)<(l.length:Int):=(by omega);clear hx hy hss h3 HH;go_wp2_with fail
   refine HC.out.mono ?_;rintro e w2 ⟨u,v,rfl,hrx,hry,hb2⟩;have HF2:=HFr.out.grow hb2;have H3:=Hid.mk (HST.out w2 u v HF2 (hrx.imp fun b hb _=>⟨by have:=hb.1;omega,hb.2⟩) (hry.imp fun b hb _=>⟨by have:=hb.1;omega,hb.2⟩));have B2:=hbelr.trans (hb2.mono hbelr.size);have hg2:w.heap.size<w2.heap.size:=Nat.lt_of_lt_of_le hgr hb2.size;obtain⟨xs,_,_,hown2,-⟩:=HF2;have hxl:xs.length=l.length*3:=hown2.1;have f0:=hown2.frozenAt (k*3);have o0:=hown2.cellAt (k*3) (by omega);obtain⟨y0,e0⟩:∃ y,xs[k*3]?=some y:=⟨_,List.getElem?_eq_getElem (by omega)⟩;rw[e0] at o0;have f1:=hown2.frozenAt (k*3+1);have o1:=hown2.cellAt (k*3+1) (by omega);obtain⟨y1,e1⟩:∃ y,xs[k*3+1]?=some y:=⟨_,List.getElem?_eq_getElem (by omega)⟩;rw[e1] at o1;have f2:=hown2.frozenAt (k*3+2);have o2:=hown2.cellAt (k*3+2) (by omega);obtain⟨y2,e2⟩:∃ y,xs[k*3+2]?=some y:=⟨_,List.getElem?_eq_getElem (by omega)⟩;rw[e2] at o2;clear e0 e1 e2;obtain⟨xa,xc,rfl,-,-,-⟩:=hrx.len;obtain⟨ya,yc,rfl,-,-,-⟩:=hry.len;have hk0:0<l.length:=(by omega);clear hown2 HFr HC HST hb2 hbelr hrx hry c0 c1 c2 hxl;go_wp2;go_roundw
   case rel=>exact⟨k+1,by omega,by go_num,H3,(((B2.setCell (Nat.le_refl _) _).setCell (Nat.le_refl _) _).setCell (Nat.le_refl _) _),by simpa using hg2⟩
   case measure=>simp[intOf];omega
  ·have e:k=l.length:=by omega
   subst e;have HR:=Hid.mk (fun hS=>HFr.out.whole (by unfold maxLen;omega) hS);have HR2:Hid (Fl wr (nf wr w.heap.size) l (.slice (some ⟨w.heap.size,0,none⟩) l.length l.length)):=HR.out (by
    intro i hi;exact HS.out (by intro hn;rw[hn] at hi;simp at hi) i hi)
   clear HR HFr HS HH;go_wp2;go_ret;exact⟨_,rfl,HR2.out,hbelr⟩
theorem toProg_any (t:Pg) (B:Nat->Prop) (x y:Value) (w:World) (hx:Ul w B t.r x) (hy:Fl w B t.f y) (hs:t.sz<=1048576) :
  Calls Tryz.prog 19 #[pgV x y] w fun e w'=>∃ u v,e=.returned (pgV u v)/\Ul w' (nf w' (w.heap.size+1)) t.r u/\Fl w' (nf w' (w.heap.size+1)) t.f v/\Below w.heap.size w w':=by
 have hz:t.sz=gsz Ru.sz t.r+gsz Fu.sz t.f:=rfl;have HX:=Hid.mk (fun(w':World) (hw:Below w.heap.size w w')=>toRuleS_any t.r B _ w' (hx.grow hw) (by omega));have HY:=Hid.mk (fun(w':World) (hw:Below w.heap.size w w')=>toFnS_any t.f B _ w' (hy.grow hw) (by omega));obtain⟨xo,xcap,rfl,-,-,-⟩:=hx.len;obtain⟨yo,ycap,rfl,-,-,-⟩:=hy.len;clear hx hy;go_enter Tryz.func19,Tryz.ntmps19
 go_wp2_with fail
 refine(HX.out _ ?_).mono ?_
 ·exact((((Below.refl _ _).alloc (Nat.le_refl _) _).alloc (by simp) _).alloc (by simp <;> omega) _)
 rintro e w1 ⟨u1,rfl,hrx,hb1⟩;have ha1:=fun o=>hb1.cell (p:=⟨w.heap.size,o,none⟩) (by simp <;> omega);have hc1:=fun o=>hb1.cell (p:=⟨w.heap.size+1,o,none⟩) (by simp);have hd1:=fun o=>hb1.cell (p:=⟨w.heap.size+1+1,o,none⟩) (by simp);have hf1:=fun o=>hb1.frozen (p:=⟨w.heap.size+1,o,none⟩) (by simp);have hg1:=fun o=>hb1.frozen (p:=⟨w.heap.size+1+1,o,none⟩) (by simp);have s1:w.heap.size+3<=w1.heap.size:=by have:=hb1.size;simp at this;omega
 have B1:Hid (Below w.heap.size w w1):=((((Below.refl _ _).alloc (Nat.le_refl _) _).alloc (by simp) _).alloc (by simp <;> omega) _).trans (hb1.mono (by simp <;> omega));have HRX:=Hid.mk (hrx.imp (C:=nf w1 (w.heap.size+3)) fun b hb _=>⟨by have:=hb.1;simp at this;omega,hb.2⟩);obtain⟨xa,xc,rfl,-,-,-⟩:=HRX.out.len;clear hrx hb1 HX;go_wp2_with fail
 refine(HY.out _ ((B1.out.setCell (by simp <;> omega) _))).mono ?_;rintro e w2 ⟨u2,rfl,hry,hb2⟩;have hc2:=fun o=>hb2.cell (p:=⟨w.heap.size+1,o,none⟩) (by simp <;> omega);have hd2:=fun o=>hb2.cell (p:=⟨w.heap.size+1+1,o,none⟩) (by simp <;> omega);have hf2:=fun o=>hb2.frozen (p:=⟨w.heap.size+1,o,none⟩) (by simp <;> omega);have hg2:=fun o=>hb2.frozen (p:=⟨w.heap.size+1+1,o,none⟩) (by simp <;> omega);have s2:w.heap.size+3<=w2.heap.size:=by have:=hb2.size;simp at this;omega
 have B2:Hid (Below w.heap.size w w2):=((B1.out.setCell (by simp <;> omega) _)).trans (hb2.mono (by simp <;> omega));have HRX2:=Hid.mk ((HRX.out.nfset (a:=⟨w.heap.size+1+1,0,none⟩) (by simp <;> omega) (.slice xa t.r.length xc)).nfgrow hb2);have HRY:=Hid.mk (hry.imp (C:=nf w2 (w.heap.size+3)) fun b hb _=>⟨by have:=hb.1;simp at this;omega,hb.2⟩);obtain⟨ya,yc,rfl,-,-,-⟩:=HRY.out.len;clear hry hb2 HY HRX B1;have v0:w2.cell? ⟨w.heap.size+1+1,0,none⟩=some (.slice xa t.r.length xc):=by go_simp
 have v1:w2.cell? ⟨w.heap.size+1+1,1,none⟩=some (.slice none 0 0):=by go_simp
 have r0:w2.cell? ⟨w.heap.size+1,0,none⟩=some (.slice none 0 0):=by go_simp
 have r1:w2.cell? ⟨w.heap.size+1,1,none⟩=some (.slice none 0 0):=by go_simp
 have q1:∀ o,w2.frozen? ⟨w.heap.size+1,o,none⟩=false:=by intro o;go_simp
 have q2:∀ o,w2.frozen? ⟨w.heap.size+1+1,o,none⟩=false:=by intro o;go_simp
 clear ha1 hc1 hd1 hf1 hg1 hc2 hd2 hf2 hg2 s1;go_wp2;have f0:(((w2.setCell ⟨w.heap.size+1+1,1,none⟩ (.slice ya t.f.length yc)).setCell ⟨w.heap.size+1,0,none⟩ (.slice xa t.r.length xc)).setCell ⟨w.heap.size+1,1,none⟩ (.slice ya t.f.length yc)).cell? ⟨w.heap.size+1,0,none⟩=some (.slice xa t.r.length xc):=by go_simp
 have f1:(((w2.setCell ⟨w.heap.size+1+1,1,none⟩ (.slice ya t.f.length yc)).setCell ⟨w.heap.size+1,0,none⟩ (.slice xa t.r.length xc)).setCell ⟨w.heap.size+1,1,none⟩ (.slice ya t.f.length yc)).cell? ⟨w.heap.size+1,1,none⟩=some (.slice ya t.f.length yc):=by go_simp
 refine bodyPost_ret (v:=pgV (.slice xa t.r.length xc) (.slice ya t.f.length yc)) ?_ rfl ⟨_,_,rfl,?_,?_,?_⟩
 ·generalize (((w2.setCell ⟨w.heap.size+1+1,1,none⟩ (.slice ya t.f.length yc)).setCell ⟨w.heap.size+1,0,none⟩ (.slice xa t.r.length xc)).setCell ⟨w.heap.size+1,1,none⟩ (.slice ya t.f.length yc))=W at f0 f1
  simp[results,Tryz.results19,go_sem,f0,f1]
 ·exact(((HRX2.out.nfset (by simp <;> omega) _).nfset (by simp <;> omega) _).nfset (by simp <;> omega) _).imp (fun b hb _=>⟨by have:=hb.1;omega,hb.2⟩)
 ·exact(((HRY.out.nfset (by simp <;> omega) _).nfset (by simp <;> omega) _).nfset (by simp <;> omega) _).imp (fun b hb _=>⟨by have:=hb.1;omega,hb.2⟩)
 ·exact(((B2.out.setCell (by simp <;> omega) _).setCell (by simp <;> omega) _).setCell (by simp <;> omega) _)
end Go.Proofs.YtkbijjkgfojchaaGreat
