/- The program's reader: what its functions leave;a part within brackets,one that stands alone,one with its mark. .. -/
import Derived.Test.YtkbijjkgfojchaaGreatQRun8
namespace Go.Proofs.YtkbijjkgfojchaaGreat
set_option maxHeartbeats 4000000
open Go.RowKit
set_option maxRecDepth 8000
def RdOk (w w':World) (R:Nat) (s:ByteArray) (p:Nat) (e:Ending) (r:Option (Tr × List Int)):Prop :=
 w.grownBy w' (some R)/\((r=none/\e=.panicked nope) \/
  ∃ t q u p',r=some (t,q)/\e=.returned (rx t.k t.s u)/\p<p'/\p'<=s.size/\q=(txt s).drop p'/\Rds w' R s p'/\t.s.size<=maxLen/\Ow w' (newFrom w.heap.size) t.l u)
def RdC (f:Nat) (g:Rdr) (n:Nat):Prop:=∀ (s:ByteArray) (R p:Nat) (w:World),Rds w R s p->p<=s.size->s.size<=1048576->s.size-p<n ->
 Calls Tryz.prog f #[.pointer (some ⟨R,0,none⟩)] w fun e w'=>RdOk w w' R s p e (g ((txt s).drop p))
def Bx3 (w:World) (b:Nat) (x y z:Value):Prop:=w.heap[b]?=some (.cells #[x,y,z] 258 (0,0))
theorem Bx3.c0 {w:World} {b:Nat} {x y z:Value} (h:Bx3 w b x y z):w.cell? ⟨b,0,none⟩=some x:=by rw[cell_of_row w b 0 _ _ (0,0) h];rfl
theorem Bx3.c1 {w:World} {b:Nat} {x y z:Value} (h:Bx3 w b x y z):w.cell? ⟨b,1,none⟩=some y:=by rw[cell_of_row w b 1 _ _ (0,0) h];rfl
theorem Bx3.c2 {w:World} {b:Nat} {x y z:Value} (h:Bx3 w b x y z):w.cell? ⟨b,2,none⟩=some z:=by rw[cell_of_row w b 2 _ _ (0,0) h];rfl
theorem Bx3.fr {w:World} {b:Nat} {x y z:Value} (h:Bx3 w b x y z) (j:Nat):w.frozen? ⟨b,j,none⟩=false:=frozen_of_row w b j _ _ h
theorem Bx3.lt {w:World} {b:Nat} {x y z:Value} (h:Bx3 w b x y z):b<w.heap.size:=by unfold Bx3 at h;exact(Array.getElem?_eq_some_iff.1 h).1
theorem Bx3.new (w:World) (x y z:Value):Bx3 (w.alloc (.cells #[x,y,z] 258)) w.heap.size x y z:=heap_alloc_new w _
theorem Bx3.kept {w w':World} {b:Nat} {x y z:Value} (h:Bx3 w b x y z) (hh:w'.heap[b]?=w.heap[b]?):Bx3 w' b x y z:=by unfold Bx3;rw[hh];exact h
abbrev set3 (w:World) (b:Nat) (x y z:Value):World:=((w.setCell ⟨b,0,none⟩ x).setCell ⟨b,1,none⟩ y).setCell ⟨b,2,none⟩ z
theorem Bx3.put {w:World} {b:Nat} {x y z:Value} (h:Bx3 w b x y z) (x' y' z':Value):Bx3 (set3 w b x' y' z') b x' y' z':=by
 unfold Bx3 at *;have h1:=heap_setCell_same w b 0 _ _ x' h;have h2:=heap_setCell_same _ b 1 _ _ y' h1;have h3:=heap_setCell_same _ b 2 _ _ z' h2;rw[h3];rfl
theorem set3_other (w:World) (b k:Nat) (x y z:Value) (h:k≠b):(set3 w b x y z).heap[k]?=w.heap[k]?:=by
 unfold set3;rw[heap_setCell_other _ _ _ _ h,heap_setCell_other _ _ _ _ h,heap_setCell_other _ _ _ _ h]
theorem set3_size (w:World) (b:Nat) (x y z:Value):(set3 w b x y z).heap.size=w.heap.size:=by simp[set3]
theorem gb_set3 {w w':World} {R b:Nat} (h:w.grownBy w' (some R)) (hb:w.heap.size<=b) (x y z:Value):w.grownBy (set3 w' b x y z) (some R) :=
 ⟨h.os,h.tape,h.output,by rw[set3_size];exact h.size,fun k hk hne=>by rw[set3_other _ _ _ _ _ _ (by omega)];exact h.block k hk hne⟩
theorem gb_alloc (w:World) (R:Nat) (o:Obj):w.grownBy (w.alloc o) (some R):=gb_below (World.grownBy.refl _ _) ((Below.refl _ _).alloc (Nat.le_refl _) _)
theorem gb_trans {w w' w'':World} {R:Nat} (h:w.grownBy w' (some R)) (k:w'.grownBy w'' (some R)):w.grownBy w'' (some R):=World.grownBy.trans h k
theorem Bx3.gb {w w':World} {b R:Nat} {x y z:Value} (h:Bx3 w b x y z) (hg:w.grownBy w' (some R)) (hne:b≠R):Bx3 w' b x y z:=h.kept (hg.block b h.lt (by simpa using hne))
theorem Rds.set3 {w:World} {R b:Nat} {s:ByteArray} {p:Nat} (h:Rds w R s p) (hne:R≠b) (x y z:Value):Rds (set3 w b x y z) R s p:=by unfold Rds;rw[set3_other _ _ _ _ _ _ hne];exact h
theorem Ow.gb {w w':World} {R:Nat} {B:Nat->Prop} {l:List Tr} {v:Value} (h:Ow w B l v) (hg:w.grownBy w' (some R)) (hne:¬ B R):Ow w' B l v:=h.kept fun b hb hlt=>hg.block b hlt (by rintro e;simp at e;subst e;exact hne hb)
theorem Ow.set3 {w:World} {B:Nat->Prop} {l:List Tr} {v:Value} (h:Ow w B l v) {b:Nat} (hne:¬ B b) (x y z:Value):Ow (set3 w b x y z) B l v:=h.kept fun k hk _=>set3_other _ _ _ _ _ _ (by rintro rfl;exact hne hk)
theorem pre_box {w:World} {R:Nat} {s:ByteArray} {p:Nat} (h:Rds w R s p):Rds (w.alloc (.cells #[.int .i64 0,.string ⟨#[]⟩,.slice none 0 0] 258)) R s p/\w.heap.size≠R/\Bx3 (w.alloc (.cells #[.int .i64 0,.string ⟨#[]⟩,.slice none 0 0] 258)) w.heap.size (.int .i64 0) (.string ⟨#[]⟩) (.slice none 0 0)/\w.grownBy (w.alloc (.cells #[.int .i64 0,.string ⟨#[]⟩,.slice none 0 0] 258)) (some R) :=
 ⟨h.grow ((Below.refl _ _).alloc (Nat.le_refl _) _),by have:=h.lt;omega,Bx3.new _ _ _ _,gb_alloc _ _ _⟩
theorem ow_leaf (w:World) (B:Nat->Prop) (k:Int):(leaf k).s.size<=maxLen/\Ow w B (leaf k).l (.slice none 0 0):=⟨by show(⟨#[]⟩:ByteArray).size<=maxLen;decide,Ow.none _⟩
theorem head_is {s:ByteArray} {p:Nat} {c:Int}:nextIs s p c=true↔((txt s).drop p).head?=some c:=by unfold nextIs;simp
theorem tail_is (s:ByteArray) (p:Nat):((txt s).drop p).tail=(txt s).drop (p+1):=by simp
theorem bracketed_of (n:Nat) (hc:RdC 257 (rd n) n):RdC 276 (rdGroup (rd n)) n:=by
 intro s R p w h hp hs hn;obtain⟨h0,hne,hb0,hg0⟩:=pre_box h;have H0:=Hid.mk h0;have HB0:=Hid.mk hb0;have HG0:=Hid.mk hg0;have hRl:=h.lt;clear h h0 hb0 hg0;cases hx:nextIs s p 41 with
 | true =>
  have hlt:=nextIs_lt hx;have HT:=Hid.mk (take_any s R p 41 _ H0.out hp hs true hx);have HR:Hid (rdGroup (rd n) ((txt s).drop p)=some (leaf 9,(txt s).drop (p+1))):=(by show _=_;rw[rdGroup,if_pos (head_is.1 hx),tail_is]);rw[HR.out];go_enter Tryz.func276,Tryz.ntmps276
  go_wp2_with fail
  refine HT.out.mono ?_;rintro e w1 ⟨rfl,hg1,hr1,hz1⟩;have HB1:=Hid.mk (HB0.out.gb hg1 hne);have c0:=HB1.out.c0;have c1:=HB1.out.c1;have c2:=HB1.out.c2;have f0:=HB1.out.fr;have HG1:=Hid.mk (gb_trans HG0.out hg1);have HR1:Hid (Rds w1 R s (p+1)):=hr1;clear HT hg1 hr1 HB0 HG0 H0;go_wp2;have hput:=HB1.out.put (.int .i64 9) (.string ⟨#[]⟩) (.slice none 0 0);have hgp:=gb_set3 HG1.out (Nat.le_refl _) (.int .i64 9) (.string ⟨#[]⟩) (.slice none 0 0);have hrp:=HR1.out.set3 (Ne.symm hne) (.int .i64 9) (.string ⟨#[]⟩) (.slice none 0 0);unfold set3 at hput hgp hrp;generalize ((w1.setCell ⟨w.heap.size,0,none⟩ (.int .i64 9)).setCell ⟨w.heap.size,1,none⟩ (.string ⟨#[]⟩)).setCell ⟨w.heap.size,2,none⟩ (.slice none 0 0)=W at hput hgp hrp |-;have r0:=hput.c0;have r1:=hput.c1;have r2:=hput.c2;refine bodyPost_ret (v:=rx 9 ⟨#[]⟩ (.slice none 0 0)) ?_ rfl ⟨hgp,Or.inr ⟨leaf 9,_,_,p+1,rfl,rfl,by omega,by omega,rfl,hrp,ow_leaf _ _ _⟩⟩;simp[results,Tryz.results276,go_sem,r0,r1,r2]
 | false =>
  have HT:=Hid.mk (take_any s R p 41 _ H0.out hp hs false hx);have HN:Hid (¬ ((txt s).drop p).head?=some 41):=fun e=>by rw[head_is.2 e] at hx;cases hx
  have HC:=Hid.mk hc;clear hc;go_enter Tryz.func276,Tryz.ntmps276
  go_wp2_with fail
  refine HT.out.mono ?_;rintro e w1 ⟨rfl,hg1,hr1,hz1⟩;have HB1:=Hid.mk (HB0.out.gb hg1 hne);have HG1:=Hid.mk (gb_trans HG0.out hg1);have HR1:Hid (Rds w1 R s p):=hr1;have hz1':w1.heap.size=w.heap.size+1:=(by rw[hz1];simp);clear HT hg1 hr1 HB0 HG0 H0 hz1;go_wp2_with fail
  refine(HC.out s R p w1 HR1.out hp hs hn).mono ?_;rintro e w2 ⟨hg2,⟨hr0,rfl⟩ | ⟨t,q,u,p2,hrd,rfl,hp1,hp2,rfl,hr2,hsz,how⟩⟩
  ·have HG2:=Hid.mk (gb_trans HG1.out hg2)
   have HE:Hid (rdGroup (rd n) ((txt s).drop p)=none):=(by show _=_;rw[rdGroup,if_neg HN.out,hr0]);exact⟨rfl,HG2.out,Or.inl ⟨HE.out,rfl⟩⟩
  ·have HG2:=Hid.mk (gb_trans HG1.out hg2)
   have HB2:=Hid.mk (HB1.out.gb hg2 hne);obtain⟨au,cu,rfl⟩:=how.value;have hbw:Below w2.heap.size w2 (w2.alloc (.cells #[.int .i64 t.k,.string t.s,.slice au t.l.length cu] 258)):=(Below.refl _ _).alloc (Nat.le_refl _) _;have HX:=Hid.mk (Bx3.new w2 (.int .i64 t.k) (.string t.s) (.slice au t.l.length cu));have HR3:=Hid.mk (hr2.grow hbw);have HB3:=Hid.mk (HB2.out.kept (hbw.block _ HB2.out.lt));have HO3:=Hid.mk (how.grow hbw);have HG3:=Hid.mk (gb_below HG2.out hbw);have hxne:w2.heap.size≠R:=(by have:=hr2.lt;omega);have hs2:w.heap.size+1<=w2.heap.size:=(by have:=hg2.size;omega);have HRD:=Hid.mk hrd;have HSZ:=Hid.mk hsz;obtain⟨tk,htk⟩:∃ tk,t.k=tk:=⟨_,rfl⟩;obtain⟨ts,hts⟩:∃ ts,t.s=ts:=⟨_,rfl⟩;rw[htk,hts] at HX HR3 HB3 HO3 HG3;rw[htk,hts];clear hg2 hr2 how hbw HB1 HG1 HR1 HC HB2 HG2 hrd hsz;cases hx2:nextIs s p2 41 with
   | true =>
    have HT:=Hid.mk (take_any s R p2 41 _ HR3.out hp2 hs true hx2);have hlt2:=nextIs_lt hx2;have HE:Hid (rdGroup (rd n) ((txt s).drop p)=some (t,(txt s).drop (p2+1))):=by
     show _=_
     rw[rdGroup,if_neg HN.out,HRD.out];show(if ((txt s).drop p2).head?=some 41 then _ else _)=_
     rw[if_pos (head_is.1 hx2),tail_is]
    go_wp2_with fail
    refine HT.out.mono ?_;rintro e w4 ⟨rfl,hg4,hr4,hz4⟩;have HB4:=Hid.mk (HB3.out.gb hg4 hne);have HX4:=Hid.mk (HX.out.gb hg4 hxne);have HO4:=Hid.mk (HO3.out.gb hg4 (by unfold newFrom;omega));have HG4:=Hid.mk (gb_trans HG3.out hg4);have HR4:Hid (Rds w4 R s (p2+1)):=hr4;have c0:=HB4.out.c0;have c1:=HB4.out.c1;have c2:=HB4.out.c2;have f0:=HB4.out.fr;have x0:=HX4.out.c0;have x1:=HX4.out.c1;have x2:=HX4.out.c2;clear HT hg4 hr4 hz4 HB3 HX HO3 HG3 HR3;go_wp2;have hput:=HB4.out.put (.int .i64 tk) (.string ts) (.slice au t.l.length cu);have hgp:=gb_set3 HG4.out (Nat.le_refl _) (.int .i64 tk) (.string ts) (.slice au t.l.length cu);have hrp:=HR4.out.set3 (Ne.symm hne) (.int .i64 tk) (.string ts) (.slice au t.l.length cu);have hop:=HO4.out.set3 (b:=w.heap.size) (by unfold newFrom;omega) (.int .i64 tk) (.string ts) (.slice au t.l.length cu);unfold set3 at hput hgp hrp hop;generalize ((w4.setCell ⟨w.heap.size,0,none⟩ (.int .i64 tk)).setCell ⟨w.heap.size,1,none⟩ (.string ts)).setCell ⟨w.heap.size,2,none⟩ (.slice au t.l.length cu)=W at hput hgp hrp hop |-;have r0:=hput.c0;have r1:=hput.c1;have r2:=hput.c2;refine bodyPost_ret (v:=rx tk ts (.slice au t.l.length cu)) ?_ rfl ⟨hgp,Or.inr ⟨t,_,_,p2+1,HE.out,by rw[htk,hts],by omega,by omega,rfl,hrp,HSZ.out,hop.mono (fun b hb=>by unfold newFrom at *;omega)⟩⟩;simp[results,Tryz.results276,go_sem,r0,r1,r2]
   | false =>
    have HT:=Hid.mk (take_any s R p2 41 _ HR3.out hp2 hs false hx2);have HE:Hid (rdGroup (rd n) ((txt s).drop p)=none):=by
     show _=_
     rw[rdGroup,if_neg HN.out,HRD.out];show(if ((txt s).drop p2).head?=some 41 then _ else _)=_
     rw[if_neg (fun e=>by rw[head_is.2 e] at hx2;cases hx2)]
    go_wp2_with fail
    refine HT.out.mono ?_;rintro e w4 ⟨rfl,hg4,hr4,hz4⟩;have HG4:=Hid.mk (gb_trans HG3.out hg4);clear HT hg4 hr4 hz4 HB3 HX HO3 HG3 HR3;go_wp2;exact⟨rfl,HG4.out,Or.inl ⟨HE.out,rfl⟩⟩
theorem ow_string (w:World) (B:Nat->Prop) (k:Int) (z:List Int) (h:z.length<=1048576):(Tr.node k (strOf z) []).s.size<=maxLen/\Ow w B (Tr.node k (strOf z) []).l (.slice none 0 0):=⟨by show(strOf z).size<=maxLen;rw[strOf_size];unfold maxLen;omega,Ow.none _⟩
theorem single_of (n:Nat) (hc:RdC 276 (rdGroup (rd n)) n):RdC 271 (rdAtom (rd n)) (n+1):=by
 intro s R p w h hp hs hn;obtain⟨h0,hne,hb0,hg0⟩:=pre_box h;have H0:=Hid.mk h0;have HB0:=Hid.mk hb0;have HG0:=Hid.mk hg0;have hRl:=h.lt;have HC:=Hid.mk hc;clear h h0 hb0 hg0 hc;by_cases he:s.size<=p
 ·have HE:Hid (rdAtom (rd n) ((txt s).drop p)=none):=by show _=_;rw[txt_end he,rdAtom]
  have HX0:=Hid.mk (nextIs_end he 46);have HX1:=Hid.mk (nextIs_end he 94);have HX2:=Hid.mk (nextIs_end he 36);have HX3:=Hid.mk (nextIs_end he 91);have HX4:=Hid.mk (nextIs_end he 40);clear HC;go_enter Tryz.func271,Tryz.ntmps271
  go_wp2_with fail
  refine(take_any s R p 46 _ H0.out hp hs false HX0.out).mono ?_;rintro e w1 ⟨rfl,hg,hr,hz⟩;have HB1:=Hid.mk (HB0.out.gb hg hne);have HG1:=Hid.mk (gb_trans HG0.out hg);have HR1:Hid (Rds w1 R s p):=hr;have hz1:w1.heap.size=w.heap.size+1:=by first | (rw[hz];simp;done) | (rw[hz];omega)
  clear hg hr hz HB0 HG0 H0;go_wp2_with fail
  refine(take_any s R p 94 _ HR1.out hp hs false HX1.out).mono ?_;rintro e w2 ⟨rfl,hg,hr,hz⟩;have HB2:=Hid.mk (HB1.out.gb hg hne);have HG2:=Hid.mk (gb_trans HG1.out hg);have HR2:Hid (Rds w2 R s p):=hr;have hz2:w2.heap.size=w.heap.size+1:=by first | (rw[hz];simp;done) | (rw[hz];omega)
  clear hg hr hz HB1 HG1 HR1;clear hz1;go_wp2_with fail
  refine(take_any s R p 36 _ HR2.out hp hs false HX2.out).mono ?_;rintro e w3 ⟨rfl,hg,hr,hz⟩;have HB3:=Hid.mk (HB2.out.gb hg hne);have HG3:=Hid.mk (gb_trans HG2.out hg);have HR3:Hid (Rds w3 R s p):=hr;have hz3:w3.heap.size=w.heap.size+1:=by first | (rw[hz];simp;done) | (rw[hz];omega)
  clear hg hr hz HB2 HG2 HR2;clear hz2;go_wp2_with fail
  refine(take_any s R p 91 _ HR3.out hp hs false HX3.out).mono ?_;rintro e w4 ⟨rfl,hg,hr,hz⟩;have HB4:=Hid.mk (HB3.out.gb hg hne);have HG4:=Hid.mk (gb_trans HG3.out hg);have HR4:Hid (Rds w4 R s p):=hr;have hz4:w4.heap.size=w.heap.size+1:=by first | (rw[hz];simp;done) | (rw[hz];omega)
  clear hg hr hz HB3 HG3 HR3;clear hz3;go_wp2_with fail
  refine(take_any s R p 40 _ HR4.out hp hs false HX4.out).mono ?_;rintro e w5 ⟨rfl,hg,hr,hz⟩;have HB5:=Hid.mk (HB4.out.gb hg hne);have HG5:=Hid.mk (gb_trans HG4.out hg);have HR5:Hid (Rds w5 R s p):=hr;have hz5:w5.heap.size=w.heap.size+1:=by first | (rw[hz];simp;done) | (rw[hz];omega)
  clear hg hr hz HB4 HG4 HR4;clear hz4;go_wp2_with fail
  refine(namedByte_dies s R p _ HR5.out hp hs (fun h=>by omega)).mono ?_;rintro e w6 ⟨rfl,hg⟩;exact⟨rfl,gb_trans HG5.out hg,Or.inl ⟨HE.out,rfl⟩⟩
 have hlt:p<s.size:=by omega
 have HAT:Hid (rdAtom (rd n) ((txt s).drop p)=rdAtom (rd n) (((s[p].toNat:Nat):Int) :: (txt s).drop (p+1))):=by show _=_;rw[txt_head hlt]
 have HN0:=Hid.mk (nextIs_at hlt 46);have HN1:=Hid.mk (nextIs_at hlt 94);have HN2:=Hid.mk (nextIs_at hlt 36);have HN3:=Hid.mk (nextIs_at hlt 91);have HN4:=Hid.mk (nextIs_at hlt 40);obtain⟨c,hcc⟩:∃ c,((s[p].toNat:Nat):Int)=c:=⟨_,rfl⟩;rw[hcc] at HAT;rw[hcc] at HN0;rw[hcc] at HN1;rw[hcc] at HN2;rw[hcc] at HN3;rw[hcc] at HN4;clear he;by_cases e0:c=46
 ·have HX0:Hid (nextIs s p 46=true):=by show _=_;rw[HN0.out,e0];rfl
  have HE:Hid (rdAtom (rd n) ((txt s).drop p)=some (leaf 2,(txt s).drop (p+1))):=(by show _=_;rw[HAT.out,rdAtom,if_pos e0]);clear HC;go_enter Tryz.func271,Tryz.ntmps271
  go_wp2_with fail
  refine(take_any s R p 46 _ H0.out hp hs true HX0.out).mono ?_;rintro e w1 ⟨rfl,hg,hr,hz⟩;have HB1:=Hid.mk (HB0.out.gb hg hne);have HG1:=Hid.mk (gb_trans HG0.out hg);have HR1:Hid (Rds w1 R s (p+1)):=hr;have hz1:w1.heap.size=w.heap.size+1:=by first | (rw[hz];simp;done) | (rw[hz];omega)
  clear hg hr hz HB0 HG0 H0;have c0:=HB1.out.c0;have c1:=HB1.out.c1;have c2:=HB1.out.c2;have f0:=HB1.out.fr;go_wp2;have hput:=HB1.out.put (.int .i64 2) (.string ⟨#[]⟩) (.slice none 0 0);have hgp:=gb_set3 HG1.out (Nat.le_refl _) (.int .i64 2) (.string ⟨#[]⟩) (.slice none 0 0);have hrp:=HR1.out.set3 (Ne.symm hne) (.int .i64 2) (.string ⟨#[]⟩) (.slice none 0 0);unfold set3 at hput hgp hrp;generalize ((w1.setCell ⟨w.heap.size,0,none⟩ (.int .i64 2)).setCell ⟨w.heap.size,1,none⟩ (.string ⟨#[]⟩)).setCell ⟨w.heap.size,2,none⟩ (.slice none 0 0)=W at hput hgp hrp |-;have r0:=hput.c0;have r1:=hput.c1;have r2:=hput.c2;refine bodyPost_ret (v:=.agg #[.int .i64 2,.string ⟨#[]⟩,.slice none 0 0]) ?_ rfl ⟨hgp,Or.inr ⟨leaf 2,_,_,p+1,HE.out,rfl,by omega,by omega,rfl,hrp,ow_leaf _ _ _⟩⟩;simp[results,Tryz.results271,go_sem,r0,r1,r2]
 by_cases e1:c=94
 ·have HX0:Hid (nextIs s p 46=false):=by show _=_;rw[HN0.out,e1];rfl
  have HX1:Hid (nextIs s p 94=true):=(by show _=_;rw[HN1.out,e1];rfl);have HE:Hid (rdAtom (rd n) ((txt s).drop p)=some (leaf 10,(txt s).drop (p+1))):=(by show _=_;rw[HAT.out,rdAtom,if_neg (by omega),if_pos e1]);clear HC;go_enter Tryz.func271,Tryz.ntmps271
  go_wp2_with fail
  refine(take_any s R p 46 _ H0.out hp hs false HX0.out).mono ?_;rintro e w1 ⟨rfl,hg,hr,hz⟩;have HB1:=Hid.mk (HB0.out.gb hg hne);have HG1:=Hid.mk (gb_trans HG0.out hg);have HR1:Hid (Rds w1 R s p):=hr;have hz1:w1.heap.size=w.heap.size+1:=by first | (rw[hz];simp;done) | (rw[hz];omega)
  clear hg hr hz HB0 HG0 H0;go_wp2_with fail
  refine(take_any s R p 94 _ HR1.out hp hs true HX1.out).mono ?_;rintro e w2 ⟨rfl,hg,hr,hz⟩;have HB2:=Hid.mk (HB1.out.gb hg hne);have HG2:=Hid.mk (gb_trans HG1.out hg);have HR2:Hid (Rds w2 R s (p+1)):=hr;have hz2:w2.heap.size=w.heap.size+1:=by first | (rw[hz];simp;done) | (rw[hz];omega)
  clear hg hr hz HB1 HG1 HR1;clear hz1;have c0:=HB2.out.c0;have c1:=HB2.out.c1;have c2:=HB2.out.c2;have f0:=HB2.out.fr;go_wp2;have hput:=HB2.out.put (.int .i64 10) (.string ⟨#[]⟩) (.slice none 0 0);have hgp:=gb_set3 HG2.out (Nat.le_refl _) (.int .i64 10) (.string ⟨#[]⟩) (.slice none 0 0);have hrp:=HR2.out.set3 (Ne.symm hne) (.int .i64 10) (.string ⟨#[]⟩) (.slice none 0 0);unfold set3 at hput hgp hrp;generalize ((w2.setCell ⟨w.heap.size,0,none⟩ (.int .i64 10)).setCell ⟨w.heap.size,1,none⟩ (.string ⟨#[]⟩)).setCell ⟨w.heap.size,2,none⟩ (.slice none 0 0)=W at hput hgp hrp |-;have r0:=hput.c0;have r1:=hput.c1;have r2:=hput.c2;refine bodyPost_ret (v:=.agg #[.int .i64 10,.string ⟨#[]⟩,.slice none 0 0]) ?_ rfl ⟨hgp,Or.inr ⟨leaf 10,_,_,p+1,HE.out,rfl,by omega,by omega,rfl,hrp,ow_leaf _ _ _⟩⟩;simp[results,Tryz.results271,go_sem,r0,r1,r2]
 by_cases e2:c=36
 ·have HX0:Hid (nextIs s p 46=false):=by show _=_;rw[HN0.out,e2];rfl
  have HX1:Hid (nextIs s p 94=false):=(by show _=_;rw[HN1.out,e2];rfl);have HX2:Hid (nextIs s p 36=true):=(by show _=_;rw[HN2.out,e2];rfl);have HE:Hid (rdAtom (rd n) ((txt s).drop p)=some (leaf 11,(txt s).drop (p+1))):=(by show _=_;rw[HAT.out,rdAtom,if_neg (by omega),if_neg (by omega),if_pos e2]);clear HC;go_enter Tryz.func271,Tryz.ntmps271
  go_wp2_with fail
  refine(take_any s R p 46 _ H0.out hp hs false HX0.out).mono ?_;rintro e w1 ⟨rfl,hg,hr,hz⟩;have HB1:=Hid.mk (HB0.out.gb hg hne);have HG1:=Hid.mk (gb_trans HG0.out hg);have HR1:Hid (Rds w1 R s p):=hr;have hz1:w1.heap.size=w.heap.size+1:=by first | (rw[hz];simp;done) | (rw[hz];omega)
  clear hg hr hz HB0 HG0 H0;go_wp2_with fail
  refine(take_any s R p 94 _ HR1.out hp hs false HX1.out).mono ?_;rintro e w2 ⟨rfl,hg,hr,hz⟩;have HB2:=Hid.mk (HB1.out.gb hg hne);have HG2:=Hid.mk (gb_trans HG1.out hg);have HR2:Hid (Rds w2 R s p):=hr;have hz2:w2.heap.size=w.heap.size+1:=by first | (rw[hz];simp;done) | (rw[hz];omega)
  clear hg hr hz HB1 HG1 HR1;clear hz1;go_wp2_with fail
  refine(take_any s R p 36 _ HR2.out hp hs true HX2.out).mono ?_;rintro e w3 ⟨rfl,hg,hr,hz⟩;have HB3:=Hid.mk (HB2.out.gb hg hne);have HG3:=Hid.mk (gb_trans HG2.out hg);have HR3:Hid (Rds w3 R s (p+1)):=hr;have hz3:w3.heap.size=w.heap.size+1:=by first | (rw[hz];simp;done) | (rw[hz];omega)
  clear hg hr hz HB2 HG2 HR2;clear hz2;have c0:=HB3.out.c0;have c1:=HB3.out.c1;have c2:=HB3.out.c2;have f0:=HB3.out.fr;go_wp2;have hput:=HB3.out.put (.int .i64 11) (.string ⟨#[]⟩) (.slice none 0 0);have hgp:=gb_set3 HG3.out (Nat.le_refl _) (.int .i64 11) (.string ⟨#[]⟩) (.slice none 0 0);have hrp:=HR3.out.set3 (Ne.symm hne) (.int .i64 11) (.string ⟨#[]⟩) (.slice none 0 0);unfold set3 at hput hgp hrp;generalize ((w3.setCell ⟨w.heap.size,0,none⟩ (.int .i64 11)).setCell ⟨w.heap.size,1,none⟩ (.string ⟨#[]⟩)).setCell ⟨w.heap.size,2,none⟩ (.slice none 0 0)=W at hput hgp hrp |-;have r0:=hput.c0;have r1:=hput.c1;have r2:=hput.c2;refine bodyPost_ret (v:=.agg #[.int .i64 11,.string ⟨#[]⟩,.slice none 0 0]) ?_ rfl ⟨hgp,Or.inr ⟨leaf 11,_,_,p+1,HE.out,rfl,by omega,by omega,rfl,hrp,ow_leaf _ _ _⟩⟩;simp[results,Tryz.results271,go_sem,r0,r1,r2]
 by_cases e3:c=91
 ·have HX0:Hid (nextIs s p 46=false):=by show _=_;rw[HN0.out,e3];rfl
  have HX1:Hid (nextIs s p 94=false):=(by show _=_;rw[HN1.out,e3];rfl);have HX2:Hid (nextIs s p 36=false):=(by show _=_;rw[HN2.out,e3];rfl);have HX3:Hid (nextIs s p 91=true):=(by show _=_;rw[HN3.out,e3];rfl);have HE:Hid (rdAtom (rd n) ((txt s).drop p)=rdSet ((txt s).drop (p+1))):=(by show _=_;rw[HAT.out,rdAtom,if_neg (by omega),if_neg (by omega),if_neg (by omega),if_pos e3]);clear HC;obtain⟨m,hm⟩:∃ m,(((txt s).drop (p+1)).takeWhile ne93).length=m:=⟨_,rfl⟩;by_cases hfd:m<((txt s).drop (p+1)).length
  ·have HE2:Hid (rdAtom (rd n) ((txt s).drop p)=some (.node 3 (strOf (((txt s).drop (p+1)).takeWhile ne93)) [],(txt s).drop (p+1+m+1))):=by
    show _=_
    rw[HE.out,rdSet,if_pos (by rw[hm];exact hfd),hm,List.drop_drop];rfl
   have hl2:p+1+m<s.size:=(by rw[List.length_drop,txt_length] at hfd;omega);go_enter Tryz.func271,Tryz.ntmps271
   go_wp2_with fail
   refine(take_any s R p 46 _ H0.out hp hs false HX0.out).mono ?_;rintro e w1 ⟨rfl,hg,hr,hz⟩;have HB1:=Hid.mk (HB0.out.gb hg hne);have HG1:=Hid.mk (gb_trans HG0.out hg);have HR1:Hid (Rds w1 R s p):=hr;have hz1:w1.heap.size=w.heap.size+1:=by first | (rw[hz];simp;done) | (rw[hz];omega)
   clear hg hr hz HB0 HG0 H0;go_wp2_with fail
   refine(take_any s R p 94 _ HR1.out hp hs false HX1.out).mono ?_;rintro e w2 ⟨rfl,hg,hr,hz⟩;have HB2:=Hid.mk (HB1.out.gb hg hne);have HG2:=Hid.mk (gb_trans HG1.out hg);have HR2:Hid (Rds w2 R s p):=hr;have hz2:w2.heap.size=w.heap.size+1:=by first | (rw[hz];simp;done) | (rw[hz];omega)
   clear hg hr hz HB1 HG1 HR1;clear hz1;go_wp2_with fail
   refine(take_any s R p 36 _ HR2.out hp hs false HX2.out).mono ?_;rintro e w3 ⟨rfl,hg,hr,hz⟩;have HB3:=Hid.mk (HB2.out.gb hg hne);have HG3:=Hid.mk (gb_trans HG2.out hg);have HR3:Hid (Rds w3 R s p):=hr;have hz3:w3.heap.size=w.heap.size+1:=by first | (rw[hz];simp;done) | (rw[hz];omega)
   clear hg hr hz HB2 HG2 HR2;clear hz2;go_wp2_with fail
   refine(take_any s R p 91 _ HR3.out hp hs true HX3.out).mono ?_;rintro e w4 ⟨rfl,hg,hr,hz⟩;have HB4:=Hid.mk (HB3.out.gb hg hne);have HG4:=Hid.mk (gb_trans HG3.out hg);have HR4:Hid (Rds w4 R s (p+1)):=hr;have hz4:w4.heap.size=w.heap.size+1:=by first | (rw[hz];simp;done) | (rw[hz];omega)
   clear hg hr hz HB3 HG3 HR3;clear hz3;go_wp2_with fail
   refine(setBytes_any s R (p+1) m _ HR4.out (by omega) hs hm hfd).mono ?_;rintro e w6 ⟨rfl,hg,hr⟩;have HB6:=Hid.mk (HB4.out.gb hg hne);have HG6:=Hid.mk (gb_trans HG4.out hg);have HR6:=Hid.mk hr;have HOS:=Hid.mk (fun(w:World) (B:Nat->Prop)=>ow_string w B 3 (((txt s).drop (p+1)).takeWhile ne93) (by rw[hm];omega));obtain⟨Z,hZ⟩:∃ Z,strOf (((txt s).drop (p+1)).takeWhile ne93)=Z:=⟨_,rfl⟩;rw[hZ] at HE2 HOS |-;clear hg hr HB4 HG4 HR4 HE;have c0:=HB6.out.c0;have c1:=HB6.out.c1;have c2:=HB6.out.c2;have f0:=HB6.out.fr;go_wp2;have hput:=HB6.out.put (.int .i64 3) (.string Z) (.slice none 0 0);have hgp:=gb_set3 HG6.out (Nat.le_refl _) (.int .i64 3) (.string Z) (.slice none 0 0);have hrp:=HR6.out.set3 (Ne.symm hne) (.int .i64 3) (.string Z) (.slice none 0 0);unfold set3 at hput hgp hrp;generalize ((w6.setCell ⟨w.heap.size,0,none⟩ (.int .i64 3)).setCell ⟨w.heap.size,1,none⟩ (.string Z)).setCell ⟨w.heap.size,2,none⟩ (.slice none 0 0)=W at hput hgp hrp |-;have r0:=hput.c0;have r1:=hput.c1;have r2:=hput.c2;refine bodyPost_ret (v:=.agg #[.int .i64 3,.string Z,.slice none 0 0]) ?_ rfl ⟨hgp,Or.inr ⟨.node 3 Z [],_,_,p+1+m+1,HE2.out,rfl,by omega,by omega,rfl,hrp,HOS.out _ _⟩⟩;simp[results,Tryz.results271,go_sem,r0,r1,r2]
  ·have HE2:Hid (rdAtom (rd n) ((txt s).drop p)=none):=by
    show _=_
    rw[HE.out,rdSet,if_neg (by rw[hm];exact hfd)]
   go_enter Tryz.func271,Tryz.ntmps271
   go_wp2_with fail
   refine(take_any s R p 46 _ H0.out hp hs false HX0.out).mono ?_;rintro e w1 ⟨rfl,hg,hr,hz⟩;have HB1:=Hid.mk (HB0.out.gb hg hne);have HG1:=Hid.mk (gb_trans HG0.out hg);have HR1:Hid (Rds w1 R s p):=hr;have hz1:w1.heap.size=w.heap.size+1:=by first | (rw[hz];simp;done) | (rw[hz];omega)
   clear hg hr hz HB0 HG0 H0;go_wp2_with fail
   refine(take_any s R p 94 _ HR1.out hp hs false HX1.out).mono ?_;rintro e w2 ⟨rfl,hg,hr,hz⟩;have HB2:=Hid.mk (HB1.out.gb hg hne);have HG2:=Hid.mk (gb_trans HG1.out hg);have HR2:Hid (Rds w2 R s p):=hr;have hz2:w2.heap.size=w.heap.size+1:=by first | (rw[hz];simp;done) | (rw[hz];omega)
   clear hg hr hz HB1 HG1 HR1;clear hz1;go_wp2_with fail
   refine(take_any s R p 36 _ HR2.out hp hs false HX2.out).mono ?_;rintro e w3 ⟨rfl,hg,hr,hz⟩;have HB3:=Hid.mk (HB2.out.gb hg hne);have HG3:=Hid.mk (gb_trans HG2.out hg);have HR3:Hid (Rds w3 R s p):=hr;have hz3:w3.heap.size=w.heap.size+1:=by first | (rw[hz];simp;done) | (rw[hz];omega)
   clear hg hr hz HB2 HG2 HR2;clear hz2;go_wp2_with fail
   refine(take_any s R p 91 _ HR3.out hp hs true HX3.out).mono ?_;rintro e w4 ⟨rfl,hg,hr,hz⟩;have HB4:=Hid.mk (HB3.out.gb hg hne);have HG4:=Hid.mk (gb_trans HG3.out hg);have HR4:Hid (Rds w4 R s (p+1)):=hr;have hz4:w4.heap.size=w.heap.size+1:=by first | (rw[hz];simp;done) | (rw[hz];omega)
   clear hg hr hz HB3 HG3 HR3;clear hz3;go_wp2_with fail
   refine(setBytes_dies s R (p+1) _ HR4.out (by omega) hs (by rw[hm];exact hfd)).mono ?_;rintro e w6 ⟨rfl,hg⟩;exact⟨rfl,gb_trans HG4.out hg,Or.inl ⟨HE2.out,rfl⟩⟩
 by_cases e4:c=40
 ·have HX0:Hid (nextIs s p 46=false):=by show _=_;rw[HN0.out,e4];rfl
  have HX1:Hid (nextIs s p 94=false):=(by show _=_;rw[HN1.out,e4];rfl);have HX2:Hid (nextIs s p 36=false):=(by show _=_;rw[HN2.out,e4];rfl);have HX3:Hid (nextIs s p 91=false):=(by show _=_;rw[HN3.out,e4];rfl);have HX4:Hid (nextIs s p 40=true):=(by show _=_;rw[HN4.out,e4];rfl);have HE:Hid (rdAtom (rd n) ((txt s).drop p)=rdGroup (rd n) ((txt s).drop (p+1))):=(by show _=_;rw[HAT.out,rdAtom,if_neg (by omega),if_neg (by omega),if_neg (by omega),if_neg (by omega),if_pos e4]);go_enter Tryz.func271,Tryz.ntmps271
  go_wp2_with fail
  refine(take_any s R p 46 _ H0.out hp hs false HX0.out).mono ?_;rintro e w1 ⟨rfl,hg,hr,hz⟩;have HB1:=Hid.mk (HB0.out.gb hg hne);have HG1:=Hid.mk (gb_trans HG0.out hg);have HR1:Hid (Rds w1 R s p):=hr;have hz1:w1.heap.size=w.heap.size+1:=by first | (rw[hz];simp;done) | (rw[hz];omega)
  clear hg hr hz HB0 HG0 H0;go_wp2_with fail
  refine(take_any s R p 94 _ HR1.out hp hs false HX1.out).mono ?_;rintro e w2 ⟨rfl,hg,hr,hz⟩;have HB2:=Hid.mk (HB1.out.gb hg hne);have HG2:=Hid.mk (gb_trans HG1.out hg);have HR2:Hid (Rds w2 R s p):=hr;have hz2:w2.heap.size=w.heap.size+1:=by first | (rw[hz];simp;done) | (rw[hz];omega)
  clear hg hr hz HB1 HG1 HR1;clear hz1;go_wp2_with fail
  refine(take_any s R p 36 _ HR2.out hp hs false HX2.out).mono ?_;rintro e w3 ⟨rfl,hg,hr,hz⟩;have HB3:=Hid.mk (HB2.out.gb hg hne);have HG3:=Hid.mk (gb_trans HG2.out hg);have HR3:Hid (Rds w3 R s p):=hr;have hz3:w3.heap.size=w.heap.size+1:=by first | (rw[hz];simp;done) | (rw[hz];omega)
  clear hg hr hz HB2 HG2 HR2;clear hz2;go_wp2_with fail
  refine(take_any s R p 91 _ HR3.out hp hs false HX3.out).mono ?_;rintro e w4 ⟨rfl,hg,hr,hz⟩;have HB4:=Hid.mk (HB3.out.gb hg hne);have HG4:=Hid.mk (gb_trans HG3.out hg);have HR4:Hid (Rds w4 R s p):=hr;have hz4:w4.heap.size=w.heap.size+1:=by first | (rw[hz];simp;done) | (rw[hz];omega)
  clear hg hr hz HB3 HG3 HR3;clear hz3;go_wp2_with fail
  refine(take_any s R p 40 _ HR4.out hp hs true HX4.out).mono ?_;rintro e w5 ⟨rfl,hg,hr,hz⟩;have HB5:=Hid.mk (HB4.out.gb hg hne);have HG5:=Hid.mk (gb_trans HG4.out hg);have HR5:Hid (Rds w5 R s (p+1)):=hr;have hz5:w5.heap.size=w.heap.size+1:=by first | (rw[hz];simp;done) | (rw[hz];omega)
  clear hg hr hz HB4 HG4 HR4;clear hz4;go_wp2_with fail
  refine(HC.out s R (p+1) _ HR5.out (by omega) hs (by omega)).mono ?_;rintro e w6 ⟨hg,⟨hr0,rfl⟩ | ⟨t,q,u,p2,hrd,rfl,hp1,hp2,rfl,hr2,hsz,how⟩⟩
  ·exact⟨rfl,gb_trans HG5.out hg,Or.inl ⟨HE.out.trans hr0,rfl⟩⟩
  ·have HB6:=Hid.mk (HB5.out.gb hg hne)
   have HG6:=Hid.mk (gb_trans HG5.out hg);have HR6:=Hid.mk hr2;have HE2:=Hid.mk (HE.out.trans hrd);have HSZ:=Hid.mk hsz;obtain⟨au,cu,rfl⟩:=how.value;have HO6:=Hid.mk how;obtain⟨tk,htk⟩:∃ tk,t.k=tk:=⟨_,rfl⟩;obtain⟨ts,hts⟩:∃ ts,t.s=ts:=⟨_,rfl⟩;rw[htk,hts];clear hg hr2 how hrd hsz HC HE HB5 HG5 HR5;have c0:=HB6.out.c0;have c1:=HB6.out.c1;have c2:=HB6.out.c2;have f0:=HB6.out.fr;go_wp2;have hput:=HB6.out.put (.int .i64 tk) (.string ts) (.slice au t.l.length cu);have hgp:=gb_set3 HG6.out (Nat.le_refl _) (.int .i64 tk) (.string ts) (.slice au t.l.length cu);have hrp:=HR6.out.set3 (Ne.symm hne) (.int .i64 tk) (.string ts) (.slice au t.l.length cu);have hop:=HO6.out.set3 (b:=w.heap.size) (by unfold newFrom;omega) (.int .i64 tk) (.string ts) (.slice au t.l.length cu);unfold set3 at hput hgp hrp hop;generalize ((w6.setCell ⟨w.heap.size,0,none⟩ (.int .i64 tk)).setCell ⟨w.heap.size,1,none⟩ (.string ts)).setCell ⟨w.heap.size,2,none⟩ (.slice au t.l.length cu)=W at hput hgp hrp hop |-;have r0:=hput.c0;have r1:=hput.c1;have r2:=hput.c2;refine bodyPost_ret (v:=.agg #[.int .i64 tk,.string ts,.slice au t.l.length cu]) ?_ rfl ⟨hgp,Or.inr ⟨t,_,_,p2,HE2.out,by rw[htk,hts],by omega,by omega,rfl,hrp,HSZ.out,hop.mono (fun b hb=>by unfold newFrom at *;omega)⟩⟩;simp[results,Tryz.results271,go_sem,r0,r1,r2]
 have HX0:Hid (nextIs s p 46=false):=by show _=_;rw[HN0.out];exact beq_eq_false_iff_ne.2 e0
 have HX1:Hid (nextIs s p 94=false):=by show _=_;rw[HN1.out];exact beq_eq_false_iff_ne.2 e1
 have HX2:Hid (nextIs s p 36=false):=by show _=_;rw[HN2.out];exact beq_eq_false_iff_ne.2 e2
 have HX3:Hid (nextIs s p 91=false):=by show _=_;rw[HN3.out];exact beq_eq_false_iff_ne.2 e3
 have HX4:Hid (nextIs s p 40=false):=by show _=_;rw[HN4.out];exact beq_eq_false_iff_ne.2 e4
 clear HC;have HE:Hid (rdAtom (rd n) ((txt s).drop p)=if rb c=true then some (.node 1 (strOf [c]) [],(txt s).drop (p+1)) else none):=by show _=_;rw[HAT.out,rdAtom,if_neg e0,if_neg e1,if_neg e2,if_neg e3,if_neg e4]
 cases hrb:rb c with
 | true =>
  have HE2:Hid (rdAtom (rd n) ((txt s).drop p)=some (.node 1 (strOf [c]) [],(txt s).drop (p+1))):=(by show _=_;rw[HE.out,hrb];rfl);have HNB:=Hid.mk (fun(w':World) (h:Rds w' R s p)=>namedByte_any s R p w' h hlt hs (by rw[hcc];exact hrb));rw[hcc] at HNB;go_enter Tryz.func271,Tryz.ntmps271
  go_wp2_with fail
  refine(take_any s R p 46 _ H0.out hp hs false HX0.out).mono ?_;rintro e w1 ⟨rfl,hg,hr,hz⟩;have HB1:=Hid.mk (HB0.out.gb hg hne);have HG1:=Hid.mk (gb_trans HG0.out hg);have HR1:Hid (Rds w1 R s p):=hr;have hz1:w1.heap.size=w.heap.size+1:=by first | (rw[hz];simp;done) | (rw[hz];omega)
  clear hg hr hz HB0 HG0 H0;go_wp2_with fail
  refine(take_any s R p 94 _ HR1.out hp hs false HX1.out).mono ?_;rintro e w2 ⟨rfl,hg,hr,hz⟩;have HB2:=Hid.mk (HB1.out.gb hg hne);have HG2:=Hid.mk (gb_trans HG1.out hg);have HR2:Hid (Rds w2 R s p):=hr;have hz2:w2.heap.size=w.heap.size+1:=by first | (rw[hz];simp;done) | (rw[hz];omega)
  clear hg hr hz HB1 HG1 HR1;clear hz1;go_wp2_with fail
  refine(take_any s R p 36 _ HR2.out hp hs false HX2.out).mono ?_;rintro e w3 ⟨rfl,hg,hr,hz⟩;have HB3:=Hid.mk (HB2.out.gb hg hne);have HG3:=Hid.mk (gb_trans HG2.out hg);have HR3:Hid (Rds w3 R s p):=hr;have hz3:w3.heap.size=w.heap.size+1:=by first | (rw[hz];simp;done) | (rw[hz];omega)
  clear hg hr hz HB2 HG2 HR2;clear hz2;go_wp2_with fail
  refine(take_any s R p 91 _ HR3.out hp hs false HX3.out).mono ?_;rintro e w4 ⟨rfl,hg,hr,hz⟩;have HB4:=Hid.mk (HB3.out.gb hg hne);have HG4:=Hid.mk (gb_trans HG3.out hg);have HR4:Hid (Rds w4 R s p):=hr;have hz4:w4.heap.size=w.heap.size+1:=by first | (rw[hz];simp;done) | (rw[hz];omega)
  clear hg hr hz HB3 HG3 HR3;clear hz3;go_wp2_with fail
  refine(take_any s R p 40 _ HR4.out hp hs false HX4.out).mono ?_;rintro e w5 ⟨rfl,hg,hr,hz⟩;have HB5:=Hid.mk (HB4.out.gb hg hne);have HG5:=Hid.mk (gb_trans HG4.out hg);have HR5:Hid (Rds w5 R s p):=hr;have hz5:w5.heap.size=w.heap.size+1:=by first | (rw[hz];simp;done) | (rw[hz];omega)
  clear hg hr hz HB4 HG4 HR4;clear hz4;go_wp2_with fail
  refine(HNB.out _ HR5.out).mono ?_;rintro e w6 ⟨rfl,hg,hr⟩;have HB6:=Hid.mk (HB5.out.gb hg hne);have HG6:=Hid.mk (gb_trans HG5.out hg);have HR6:=Hid.mk hr;have HOS:=Hid.mk (fun(w:World) (B:Nat->Prop)=>ow_string w B 1 [c] (by simp));obtain⟨Z,hZ⟩:∃ Z,strOf [c]=Z:=⟨_,rfl⟩;rw[hZ] at HE2 HOS |-;clear hg hr HB5 HG5 HR5 HE HNB;have c0:=HB6.out.c0;have c1:=HB6.out.c1;have c2:=HB6.out.c2;have f0:=HB6.out.fr;go_wp2;have hput:=HB6.out.put (.int .i64 1) (.string Z) (.slice none 0 0);have hgp:=gb_set3 HG6.out (Nat.le_refl _) (.int .i64 1) (.string Z) (.slice none 0 0);have hrp:=HR6.out.set3 (Ne.symm hne) (.int .i64 1) (.string Z) (.slice none 0 0);unfold set3 at hput hgp hrp;generalize ((w6.setCell ⟨w.heap.size,0,none⟩ (.int .i64 1)).setCell ⟨w.heap.size,1,none⟩ (.string Z)).setCell ⟨w.heap.size,2,none⟩ (.slice none 0 0)=W at hput hgp hrp |-;have r0:=hput.c0;have r1:=hput.c1;have r2:=hput.c2;refine bodyPost_ret (v:=.agg #[.int .i64 1,.string Z,.slice none 0 0]) ?_ rfl ⟨hgp,Or.inr ⟨.node 1 Z [],_,_,p+1,HE2.out,rfl,by omega,by omega,rfl,hrp,HOS.out _ _⟩⟩;simp[results,Tryz.results271,go_sem,r0,r1,r2]
 | false =>
  have HE2:Hid (rdAtom (rd n) ((txt s).drop p)=none):=(by show _=_;rw[HE.out,hrb];rfl);go_enter Tryz.func271,Tryz.ntmps271
  go_wp2_with fail
  refine(take_any s R p 46 _ H0.out hp hs false HX0.out).mono ?_;rintro e w1 ⟨rfl,hg,hr,hz⟩;have HB1:=Hid.mk (HB0.out.gb hg hne);have HG1:=Hid.mk (gb_trans HG0.out hg);have HR1:Hid (Rds w1 R s p):=hr;have hz1:w1.heap.size=w.heap.size+1:=by first | (rw[hz];simp;done) | (rw[hz];omega)
  clear hg hr hz HB0 HG0 H0;go_wp2_with fail
  refine(take_any s R p 94 _ HR1.out hp hs false HX1.out).mono ?_;rintro e w2 ⟨rfl,hg,hr,hz⟩;have HB2:=Hid.mk (HB1.out.gb hg hne);have HG2:=Hid.mk (gb_trans HG1.out hg);have HR2:Hid (Rds w2 R s p):=hr;have hz2:w2.heap.size=w.heap.size+1:=by first | (rw[hz];simp;done) | (rw[hz];omega)
  clear hg hr hz HB1 HG1 HR1;clear hz1;go_wp2_with fail
  refine(take_any s R p 36 _ HR2.out hp hs false HX2.out).mono ?_;rintro e w3 ⟨rfl,hg,hr,hz⟩;have HB3:=Hid.mk (HB2.out.gb hg hne);have HG3:=Hid.mk (gb_trans HG2.out hg);have HR3:Hid (Rds w3 R s p):=hr;have hz3:w3.heap.size=w.heap.size+1:=by first | (rw[hz];simp;done) | (rw[hz];omega)
  clear hg hr hz HB2 HG2 HR2;clear hz2;go_wp2_with fail
  refine(take_any s R p 91 _ HR3.out hp hs false HX3.out).mono ?_;rintro e w4 ⟨rfl,hg,hr,hz⟩;have HB4:=Hid.mk (HB3.out.gb hg hne);have HG4:=Hid.mk (gb_trans HG3.out hg);have HR4:Hid (Rds w4 R s p):=hr;have hz4:w4.heap.size=w.heap.size+1:=by first | (rw[hz];simp;done) | (rw[hz];omega)
  clear hg hr hz HB3 HG3 HR3;clear hz3;go_wp2_with fail
  refine(take_any s R p 40 _ HR4.out hp hs false HX4.out).mono ?_;rintro e w5 ⟨rfl,hg,hr,hz⟩;have HB5:=Hid.mk (HB4.out.gb hg hne);have HG5:=Hid.mk (gb_trans HG4.out hg);have HR5:Hid (Rds w5 R s p):=hr;have hz5:w5.heap.size=w.heap.size+1:=by first | (rw[hz];simp;done) | (rw[hz];omega)
  clear hg hr hz HB4 HG4 HR4;clear hz4;go_wp2_with fail
  refine(namedByte_dies s R p _ HR5.out hp hs (fun h=>by rw[hcc];exact hrb)).mono ?_;rintro e w6 ⟨rfl,hg⟩;exact⟨rfl,gb_trans HG5.out hg,Or.inl ⟨HE2.out,rfl⟩⟩
end Go.Proofs.YtkbijjkgfojchaaGreat
