/- The model's Check of chapter 12. .. -/
import Derived.Test.YtkbijjkgfojchaaGreatQNmBoth
namespace Go.Proofs.YtkbijjkgfojchaaGreat
set_option maxHeartbeats 40000000
open Go.RowKit
set_option maxRecDepth 8000
set_option linter.unusedSimpArgs false
theorem fn_one {p:Pg} (hp:progB p=true) {f f':Fu} (hf:f∈p.f) (hf':f'∈p.f) (h:f.n=f'.n):f=f':=by
 obtain⟨-,h2,-,-⟩:=progB_iff.1 hp;obtain⟨i,hi,rfl⟩:=List.getElem_of_mem hf;obtain⟨j,hj,rfl⟩:=List.getElem_of_mem hf';rcases Nat.lt_trichotomy i j with e | e | e
 ·have:=(h2 j hj).2.1 i e
  rw[h] at this;simp at this
 ·subst e;rfl
 ·have:=(h2 i hi).2.1 j e
  rw[h] at this;simp at this
theorem ret_k {K k:Int} (h:K=k):Ending.returned (.int .i64 k)=Ending.returned (.int .i64 K):=by rw[h]
def CallOk (p:Pg) (e:Ex):Prop:=∃ f∈p.f,f.n=e.s/\e.l.length<=f.ps.length
theorem badCall_iff (p:Pg):BadCallP p↔∃ e∈(Ms.of p).cs,¬ CallOk p e:=by
 obtain⟨-,-,h3,-⟩:=Ms.of_spec p;unfold BadCallP CallOk;constructor
 ·rintro⟨e,he,h⟩
  exact⟨e,(h3 e).2 he,h⟩
 ·rintro⟨e,he,h⟩
  exact⟨e,(h3 e).1 he,h⟩
theorem specCheck_any (p:Pg) (B:Nat->Prop) (x y:Value) (w:World) (hx:Ul w B p.r x) (hy:Fl w B p.f y) (hs:ShPg p) (hz:p.sz<=1048576) :
  Calls Tryz.prog 15 #[pgV x y] w fun e w'=>e=.returned (.int .i64 (checkP p))/\Below w.heap.size w w':=by
 obtain⟨xo,xc,rfl,hx1,-,-⟩:=hx.len;obtain⟨yo,yc,rfl,hy1,hy2,-⟩:=hy.len;have hym:yc<=9223372036854775807:=by unfold maxLen at hy2;omega
 have A0:Below w.heap.size w (w.alloc (.cells #[.slice xo p.r.length xc,.slice yo p.f.length yc] 27)):=(Below.refl _ _).alloc (Nat.le_refl _) _;have HPB:=Hid.mk (heap_alloc_new w (.cells #[.slice xo p.r.length xc,.slice yo p.f.length yc] 27));have HX:=Hid.mk (hx.grow A0);have HY:=Hid.mk (hy.grow A0);have HA0:=Hid.mk A0;have HW:Hid (w.heap.size<(w.alloc (.cells #[.slice xo p.r.length xc,.slice yo p.f.length yc] 27)).heap.size):=by unfold Hid;simp
 have HSH:=Hid.mk hs;have HZ:=Hid.mk hz;have HC1:Hid (progB p=false->checkP p=1):=fun h=>by unfold checkP;rw[if_pos h]
 have HC2:Hid (progB p=true->BothP p->checkP p=2):=fun h hb=>by unfold checkP;rw[if_neg (by rw[h];simp),if_pos hb]
 have HC3:Hid (progB p=true->¬ BothP p->BadCallP p->checkP p=3):=fun h hb hc=>by unfold checkP;rw[if_neg (by rw[h];simp),if_neg hb,if_pos hc]
 have HC4:Hid (progB p=true->¬ BothP p->¬ BadCallP p->BadPlaceP p->checkP p=4):=fun h hb hc hd=>by unfold checkP;rw[if_neg (by rw[h];simp),if_neg hb,if_neg hc,if_pos hd]
 have HC0:Hid (progB p=true->¬ BothP p->¬ BadCallP p->¬ BadPlaceP p->checkP p=0):=fun h hb hc hd=>by unfold checkP;rw[if_neg (by rw[h];simp),if_neg hb,if_neg hc,if_neg hd]
 obtain⟨K,hK⟩:∃ k,checkP p=k:=⟨_,rfl⟩;rw[hK] at HC0 HC1 HC2 HC3 HC4 |-;clear hK hx hy hs hz hy2 A0;go_enter Tryz.func15,Tryz.ntmps15
 go_upto_region 1 with fail
 have cP:=Hid.mk (specProgOk_any p B _ _ _ HX.out HY.out HSH.out);generalize w.alloc (.cells #[.slice xo p.r.length xc,.slice yo p.f.length yc] 27)=wq at *;obtain⟨pb,hpb⟩:∃ n,w.heap.size=n:=⟨_,rfl⟩;have HPBN:=Hid.mk hpb;rw[hpb] at HPB HW HA0 |-;clear hpb;have HXL:=Hid.mk hx1;obtain⟨yn,hyn⟩:∃ n,p.f.length=n:=⟨_,rfl⟩;have HYN:=Hid.mk hyn;obtain⟨xn,hxn⟩:∃ n,p.r.length=n:=⟨_,rfl⟩;rw[hyn] at HY HPB hy1 cP |-;rw[hxn] at HX HPB hx1 cP |-;clear hyn hxn HXL;have HCB:Hid (∀ wr,Below wq.heap.size wq wr->∀ o,wr.cell? ⟨pb,o,none⟩=#[Value.slice xo xn xc,.slice yo yn yc][o]?):=fun wr hb o=>cell_of_row wr pb o _ _ (0,0) ((hb.block pb HW.out).trans HPB.out);have HEND:Hid (∀ wr,Below wq.heap.size wq wr->Below w.heap.size w wr):=fun wr hb=>by rw[HPBN.out];exact HA0.out.trans (hb.mono (by have:=HW.out;omega))
 obtain⟨R,hR⟩:∃ R,progB p=R:=⟨_,rfl⟩;have HR:=Hid.mk hR;rw[hR] at cP;clear hR;have c0:=HCB.out wq (Below.refl _ _);go_wp2_with fail
 refine cP.out.mono ?_;rintro e w1 ⟨rfl,hb1⟩;have HB1:=Hid.mk hb1;clear cP hb1 c0;cases R with
 | false =>
  have HK:Hid (K=1):=(HC1.out HR.out);clear HC0 HC1 HC2 HC3 HC4;go_wp2;go_ret;exact⟨ret_k HK.out,HEND.out _ HB1.out⟩
 | true =>
  have c1:=HCB.out w1 HB1.out;have cO:=Hid.mk (l12Of_any p B _ _ w1 (HX.out.grow HB1.out) (HY.out.grow HB1.out) HZ.out);go_wp2_with fail
  refine cO.out.mono ?_;rintro e w2 ⟨ub,c,ps,fn,line,rfl,hu,hb2⟩;have HB2:=Hid.mk (HB1.out.trans (hb2.mono HB1.out.size));have HU2:=Hid.mk hu;have c2:=HCB.out w2 HB2.out;have cB:=Hid.mk (l12Both_any p B (.slice xo xn xc) _ w2 ⟨_,_,_,rfl⟩ (HY.out.grow HB2.out) ub c ps fn line (Ms.of p) hu);clear hu hb2 cO HB1 c1;go_wp2_with fail
  refine cB.out.mono ?_;rintro e w3 ⟨b,rfl,hbi,hb3⟩;have HB3:=Hid.mk (HB2.out.trans (hb3.mono HB2.out.size));have HU3:=Hid.mk (HU2.out.grow hb3);have HBI:Hid (b=true↔BothP p):=hbi.trans (bothM_iff p);clear hb3 hbi cB HB2 HU2 c2;cases b with
  | true =>
   have HK:Hid (K=2):=(HC2.out HR.out (HBI.out.1 rfl));clear HC0 HC1 HC2 HC3 HC4;go_wp2;go_ret;exact⟨ret_k HK.out,HEND.out _ HB3.out⟩
  | false =>
   have HNB:Hid (¬ BothP p):=fun h=>by cases HBI.out.2 h
   have HBC:=Hid.mk (badCall_iff p);have HBP:=Hid.mk (Ms.of_spec p).2.2.2;obtain⟨m,hm⟩:∃ m,Ms.of p=m:=⟨_,rfl⟩;rw[hm] at HBC HBP HU3;clear hm HBI;obtain⟨v,t,pv,hU⟩:=HU3.out;obtain⟨L,hL,hrow,hsh⟩:=hU.hc;have HUU:=Hid.mk hU;have HLM:=Hid.mk hL;have HROW:=Hid.mk hrow;have HSL:=Hid.mk hsh;have HCS:Hid (∃ ao cap,c=.slice ao L.length cap):=by
    rcases hrow.2 with⟨h1,h0⟩ | ⟨g',cap',cur,h1,-⟩
    ·exact⟨none,0,by rw[h0];exact h1⟩
    ·exact⟨_,_,h1⟩
   clear hU hL hrow hsh HU3;obtain⟨co,cc,rfl⟩:=HCS.out;obtain⟨cn,hcn⟩:∃ n,L.length=n:=⟨_,rfl⟩;have HCN:=Hid.mk hcn;have HCC:Hid (cn<=cc/\cc<=maxLen):=by
    rcases HROW.out.2 with⟨h1,h0⟩ | ⟨g',cap',cur,h1,_,_,h2,h3,_⟩
    ·simp at h1;exact⟨by omega,by omega⟩
    ·simp at h1;exact⟨by omega,by omega⟩
   rw[hcn] at HUU HROW;clear hcn HCS;have hcc1:=HCC.out.1;have hcc2:cc<=9223372036854775807:=(by have:=HCC.out.2;unfold maxLen at this;omega);have u2:=HUU.out.cell 2;simp at u2;go_wp2;clear u2;go_loopw [4] (fun i wr=>∃ k1:Nat,k1<=cn/\i=.int .i64 k1/\Hid (∀ j (hj:j<L.length),j<k1->CallOk p L[j].1)/\Hid (Below w3.heap.size w3 wr)) (fun i _=>cn-(intOf i).toNat)
   case atStart=>exact⟨0,Nat.zero_le _,rfl,fun j _ h=>absurd h (Nat.not_lt_zero j),Below.refl _ _⟩
   case round =>
    obtain⟨k1,hk,rfl,Ho,HB⟩:=hrel;have HBq:=Hid.mk (HB3.out.trans (HB.out.mono HB3.out.size));have HUr:=Hid.mk (HUU.out.grow HB.out);have hc0:=HCB.out wr HBq.out;have p0:=hc0 0;have p1:=hc0 1;simp at p0 p1;have u2:=HUr.out.cell 2;simp at u2;clear hc0;by_cases hkl:k1<cn
    ·have hi1:(k1:Int)<(cn:Int):=by omega
     have hkx:k1<L.length:=(by rw[HCN.out];exact hkl);have hrw:wr.ownsRow (ub+1) 54 4 (.slice co cn cc) cn (ccs L):=World.ownsRow.kept HROW.out (nm_gb HB.out) (by
      cases (Value.slice co cn cc).ownBlock with
      | none=>exact .inl rfl
      | some k=>exact .inr (by simp))
     obtain⟨gb,cap',hsl⟩:=cown_some hrw (by omega);simp only[Value.slice.injEq,true_and] at hsl;obtain⟨hgo,-⟩:=hsl;subst hgo;have hcell:=hrw.cells (g:=gb) rfl;obtain⟨s0,s1,s2,s3⟩:=ccs_at L k1 hkx;have r2:=hcell _ _ s2;have r3:=hcell _ _ s3;simp only[Addr.add_lit,Nat.zero_add] at r2 r3;obtain⟨lo,lc,hq2⟩:=HSL.out _ (List.getElem_mem hkx);rw[hq2] at r3;obtain⟨g,hg⟩:=FnAt.ex p.f L[k1].1.s;have cF:=Hid.mk (fun d os=>Calls.regrown_of (w:=wr) (d:=d) (os:=os) (l10FnB_any p B (.slice xo xn xc) _ L[k1].1.s _ g hg ⟨_,_,_,rfl⟩ ((HY.out.grow HBq.out).grow (below_regrown wr d os))));have HM:Hid (¬ CallOk p L[k1].1->BadCallP p):=fun h=>HBC.out.2 ⟨L[k1].1,by rw[<- HLM.out];exact List.mem_map.2 ⟨_,List.getElem_mem hkx,rfl⟩,h⟩;have HO2:Hid (CallOk p L[k1].1->∀ j (hj:j<L.length),j<k1+1->CallOk p L[j].1):=by
      intro h j hj hj1;by_cases e:j<k1
      ·exact Ho.out j hj e
      ·obtain rfl:j=k1:=by omega
       exact h
     have HG:=Hid.mk hg;obtain⟨e1,he1⟩:∃ s,L[k1].1=s:=⟨_,rfl⟩;rw[he1] at r2 r3 cF HM HO2 HG;have a0:=cell_regrown p0;have a1:=cell_regrown p1;have a2:=cell_regrown u2;have a3:=cell_regrown r2;clear he1 hcell s0 s1 s2 s3 hq2 hg hkx hrw Ho;go_wp2_with fail
     refine wp_region_quiet_below (by kernel_rfl) (by kernel_rfl) (Qt.out ?_)
     iterate 9
      refine Qt.step (fun K hK=>?_);go_simp;refine hK _ ?_;clear hK K
     refine Qt.step (fun K hK=>?_);go_simp;apply Exists.intro
     refine⟨fun _=>?_,hK _ ?_⟩;exact cF.out _ _;clear hK K;refine Qt.step (fun K hK=>?_);go_simp;refine hK _ ?_;clear hK K;refine Qt.nil ?_;intro w6 hw';obtain⟨⟨dq,osq⟩,hw''⟩:=hw';have hb6:Below wr.heap.size wr w6:=(by rw[hw''];exact below_regrown _ _ _);clear hw'';have HB6:=Hid.mk (HB.out.trans (hb6.mono HB.out.size));have HB6q:=Hid.mk (HB3.out.trans (HB6.out.mono HB3.out.size));have hc0:=HCB.out w6 HB6q.out;have p0':=hc0 0;have p1':=hc0 1;simp at p0' p1';have u2':=(HUr.out.grow hb6).cell 2;simp at u2';have r3':=(hb6.cell (World.block_lt_of_cell? wr _ r3)).trans r3;clear hb6 a0 a1 a2 a3 cF p0 p1 u2 r2 r3 hc0 HUr HB HBq;have a1:=cell_regrown p1';have a2:=cell_regrown u2';have a3:=cell_regrown r3';rcases HG.out with⟨rfl,hno⟩ | ⟨i,hi,rfl,hn1,hn2⟩
     ·have hgl:decide ((-1:Int)<0)=true:=rfl
      have HK:Hid (K=3):=HC3.out HR.out HNB.out (HM.out (by
       rintro⟨f,hf,he,-⟩;obtain⟨j,hj,rfl⟩:=List.getElem_of_mem hf;have:=hno j hj;rw[he] at this;simp at this))
      clear HC0 HC1 HC2 HC3 HC4 hno;go_wp2_with fail
      refine wp_region_quiet_below (by kernel_rfl) (by kernel_rfl) (Qt.out ?_)
      iterate 21
       refine Qt.step (fun K hK=>?_);go_simp;refine hK _ ?_;clear hK K
      refine Qt.nil ?_;intro w7 hw';obtain⟨⟨dq,osq⟩,hw''⟩:=hw';have hb6:Below w6.heap.size w6 w7:=(by rw[hw''];exact below_regrown _ _ _);clear hw'';have BF:=Hid.mk (HEND.out _ (HB6q.out.trans (hb6.mono HB6q.out.size)));clear hb6 a1 a2 a3 p0' p1' u2' r3';go_wp2;go_ret;exact⟨ret_k HK.out,BF.out⟩
     ·have hgl:decide (((i:Nat):Int)<0)=false:=decide_eq_false (by omega)
      have hiy:(i:Int)<(yn:Int):=(by have:=HYN.out;omega);obtain⟨b,off,X,Y,rfl,hel⟩:=(HY.out.grow HB6q.out).elems (by intro hn;rw[hn] at hi;simp at hi);obtain⟨⟨-,f1,-⟩,hps,-,-⟩:=hel i hi;obtain⟨po,pc,hpe,-⟩:=hps.len;rw[hpe] at f1;have hfs:p.f[i].n=e1.s:=bytes_eq (by simpa using hn1);have HOK:Hid (CallOk p e1↔e1.l.length<=p.f[i].ps.length):=by
       constructor
       ·rintro⟨f,hf,he,h⟩
        rw[fn_one HR.out hf (List.getElem_mem hi) (he.trans hfs.symm)] at h;exact h
       ·intro h
        exact⟨_,List.getElem_mem hi,hfs,h⟩
      obtain⟨pn,hpn⟩:∃ n,p.f[i].ps.length=n:=⟨_,rfl⟩;rw[hpn] at f1 HOK;obtain⟨ln,hln⟩:∃ n,e1.l.length=n:=⟨_,rfl⟩;rw[hln] at r3' a3 HOK;have a4:=cell_regrown f1;clear hel hps hpe hpn hn1 hn2 hfs hln;by_cases hok:ln<=pn
      ·have hgt:decide ((pn:Int)<(ln:Int))=false:=decide_eq_false (by omega)
       have HO3:=Hid.mk (HO2.out (HOK.out.2 hok));clear HM HO2 HOK;go_wp2_with fail
       refine wp_region_quiet_below (by kernel_rfl) (by kernel_rfl) (Qt.out ?_)
       iterate 21
        refine Qt.step (fun K hK=>?_);go_simp;refine hK _ ?_;clear hK K
       refine Qt.nil ?_;intro w7 hw';obtain⟨⟨dq,osq⟩,hw''⟩:=hw';have hb6:Below w6.heap.size w6 w7:=(by rw[hw''];exact below_regrown _ _ _);clear hw'';have HB7:=Hid.mk (HB6.out.trans (hb6.mono HB6.out.size));clear hb6 a1 a2 a3 a4 p0' p1' u2' r3' f1;go_wp2;go_roundw
       case rel=>exact⟨k1+1,by omega,by go_num,HO3,HB7⟩
       case measure=>simp[intOf];omega
      ·have hgt:decide ((pn:Int)<(ln:Int))=true:=decide_eq_true (by omega)
       have HK:Hid (K=3):=HC3.out HR.out HNB.out (HM.out (fun h=>hok (HOK.out.1 h)));clear HM HO2 HOK HC0 HC1 HC2 HC3 HC4;go_wp2_with fail
       refine wp_region_quiet_below (by kernel_rfl) (by kernel_rfl) (Qt.out ?_)
       iterate 21
        refine Qt.step (fun K hK=>?_);go_simp;refine hK _ ?_;clear hK K
       refine Qt.nil ?_;intro w7 hw';obtain⟨⟨dq,osq⟩,hw''⟩:=hw';have hb6:Below w6.heap.size w6 w7:=(by rw[hw''];exact below_regrown _ _ _);clear hw'';have BF:=Hid.mk (HEND.out _ (HB6q.out.trans (hb6.mono HB6q.out.size)));clear hb6 a1 a2 a3 a4 p0' p1' u2' r3' f1;go_wp2;go_ret;exact⟨ret_k HK.out,BF.out⟩
    ·have e:k1=cn:=by omega
     subst e;have HNC:Hid (¬ BadCallP p):=fun h=>by
      obtain⟨e,he,hb⟩:=HBC.out.1 h;rw[<- HLM.out] at he;obtain⟨q,hq,rfl⟩:=List.mem_map.1 he;obtain⟨j,hj,rfl⟩:=List.getElem_of_mem hq;exact hb (Ho.out j hj (by rw[<- HCN.out];exact hj))
     have u6:=HUr.out.cell 6;simp at u6;have BF:=Hid.mk (HEND.out _ HBq.out);have HBP2:=HBP;obtain⟨bb,hbb⟩:∃ b,m.bad=b:=⟨_,rfl⟩;rw[hbb] at u6 HBP2;clear Ho HBC HUr HBP HB HBq hbb p0 p1;cases bb with
     | true =>
      have HK:Hid (K=4):=HC4.out HR.out HNB.out HNC.out (HBP2.out.1 rfl);clear HC0 HC1 HC2 HC3 HC4;go_wp2;go_ret;exact⟨ret_k HK.out,BF.out⟩
     | false =>
      have HK:Hid (K=0):=HC0.out HR.out HNB.out HNC.out (fun h=>by cases HBP2.out.2 h);clear HC0 HC1 HC2 HC3 HC4;go_wp2;go_ret;exact⟨ret_k HK.out,BF.out⟩
abbrev fm (s t a b:Bool) (lo hi:Int):Value:=.agg #[.bool s,.bool t,.bool a,.bool b,.int .i64 lo,.int .i64 hi]
structure Frm where
 s:Bool
 t:Bool
 a:Bool
 b:Bool
 lo:Int
 hi:Int
 ok:Bool
def frm (k:Int):Frm :=
 if k=1 then ⟨false,false,false,false,1,5,true⟩
 else if k=2\/k=11 then ⟨true,false,false,false,1,1,true⟩
 else if k=3 then ⟨true,false,false,false,2,2,true⟩
 else if k=4 then ⟨false,false,false,false,2,2,true⟩
 else if k=5 then ⟨false,false,true,true,1,1,true⟩
 else if k=6 then ⟨false,false,true,false,1,1,true⟩
 else if k=7 then ⟨true,true,true,false,0,0,true⟩
 else if k=8 then ⟨false,false,false,false,0,0,true⟩
 else if k=9\/k=10\/k=12 then ⟨false,false,false,false,1,1,true⟩
 else ⟨false,false,false,false,0,0,false⟩
abbrev frmV (f:Frm):Value:=.tuple #[fm f.s f.t f.a f.b f.lo f.hi,.bool f.ok]
theorem formOf_any (k:Int) (w:World):Calls Tryz.prog 176 #[.int .i64 k] w fun e w'=>e=.returned (frmV (frm k))/\Below w.heap.size w w':=by
 by_cases k1:k=1
 ·subst k1
  go_enter Tryz.func176,Tryz.ntmps176
  go_wp2;refine bodyPost_ret (v:=frmV (frm 1)) ?_ rfl ⟨rfl,?_⟩
  ·simp[results,Tryz.results176,go_sem,frm]
  ·exact(Below.refl _ _).alloc (Nat.le_refl _) _
 by_cases k2:k=2
 ·subst k2
  go_enter Tryz.func176,Tryz.ntmps176
  go_wp2;refine bodyPost_ret (v:=frmV (frm 2)) ?_ rfl ⟨rfl,?_⟩
  ·simp[results,Tryz.results176,go_sem,frm]
  ·exact(Below.refl _ _).alloc (Nat.le_refl _) _
 by_cases k3:k=3
 ·subst k3
  go_enter Tryz.func176,Tryz.ntmps176
  go_wp2;refine bodyPost_ret (v:=frmV (frm 3)) ?_ rfl ⟨rfl,?_⟩
  ·simp[results,Tryz.results176,go_sem,frm]
  ·exact(Below.refl _ _).alloc (Nat.le_refl _) _
 by_cases k4:k=4
 ·subst k4
  go_enter Tryz.func176,Tryz.ntmps176
  go_wp2;refine bodyPost_ret (v:=frmV (frm 4)) ?_ rfl ⟨rfl,?_⟩
  ·simp[results,Tryz.results176,go_sem,frm]
  ·exact(Below.refl _ _).alloc (Nat.le_refl _) _
 by_cases k5:k=5
 ·subst k5
  go_enter Tryz.func176,Tryz.ntmps176
  go_wp2;refine bodyPost_ret (v:=frmV (frm 5)) ?_ rfl ⟨rfl,?_⟩
  ·simp[results,Tryz.results176,go_sem,frm]
  ·exact(Below.refl _ _).alloc (Nat.le_refl _) _
 by_cases k6:k=6
 ·subst k6
  go_enter Tryz.func176,Tryz.ntmps176
  go_wp2;refine bodyPost_ret (v:=frmV (frm 6)) ?_ rfl ⟨rfl,?_⟩
  ·simp[results,Tryz.results176,go_sem,frm]
  ·exact(Below.refl _ _).alloc (Nat.le_refl _) _
 by_cases k7:k=7
 ·subst k7
  go_enter Tryz.func176,Tryz.ntmps176
  go_wp2;refine bodyPost_ret (v:=frmV (frm 7)) ?_ rfl ⟨rfl,?_⟩
  ·simp[results,Tryz.results176,go_sem,frm]
  ·exact(Below.refl _ _).alloc (Nat.le_refl _) _
 by_cases k8:k=8
 ·subst k8
  go_enter Tryz.func176,Tryz.ntmps176
  go_wp2;refine bodyPost_ret (v:=frmV (frm 8)) ?_ rfl ⟨rfl,?_⟩
  ·simp[results,Tryz.results176,go_sem,frm]
  ·exact(Below.refl _ _).alloc (Nat.le_refl _) _
 by_cases k9:k=9
 ·subst k9
  go_enter Tryz.func176,Tryz.ntmps176
  go_wp2;refine bodyPost_ret (v:=frmV (frm 9)) ?_ rfl ⟨rfl,?_⟩
  ·simp[results,Tryz.results176,go_sem,frm]
  ·exact(Below.refl _ _).alloc (Nat.le_refl _) _
 by_cases k10:k=10
 ·subst k10
  go_enter Tryz.func176,Tryz.ntmps176
  go_wp2;refine bodyPost_ret (v:=frmV (frm 10)) ?_ rfl ⟨rfl,?_⟩
  ·simp[results,Tryz.results176,go_sem,frm]
  ·exact(Below.refl _ _).alloc (Nat.le_refl _) _
 by_cases k11:k=11
 ·subst k11
  go_enter Tryz.func176,Tryz.ntmps176
  go_wp2;refine bodyPost_ret (v:=frmV (frm 11)) ?_ rfl ⟨rfl,?_⟩
  ·simp[results,Tryz.results176,go_sem,frm]
  ·exact(Below.refl _ _).alloc (Nat.le_refl _) _
 by_cases k12:k=12
 ·subst k12
  go_enter Tryz.func176,Tryz.ntmps176
  go_wp2;refine bodyPost_ret (v:=frmV (frm 12)) ?_ rfl ⟨rfl,?_⟩
  ·simp[results,Tryz.results176,go_sem,frm]
  ·exact(Below.refl _ _).alloc (Nat.le_refl _) _
 have e1:(k==1)=false:=beq_eq_false_iff_ne.2 k1;have e2:(k==2)=false:=beq_eq_false_iff_ne.2 k2;have e3:(k==3)=false:=beq_eq_false_iff_ne.2 k3;have e4:(k==4)=false:=beq_eq_false_iff_ne.2 k4;have e5:(k==5)=false:=beq_eq_false_iff_ne.2 k5;have e6:(k==6)=false:=beq_eq_false_iff_ne.2 k6;have e7:(k==7)=false:=beq_eq_false_iff_ne.2 k7;have e8:(k==8)=false:=beq_eq_false_iff_ne.2 k8;have e9:(k==9)=false:=beq_eq_false_iff_ne.2 k9;have e10:(k==10)=false:=beq_eq_false_iff_ne.2 k10;have e11:(k==11)=false:=beq_eq_false_iff_ne.2 k11;have e12:(k==12)=false:=beq_eq_false_iff_ne.2 k12;have hz:frm k=⟨false,false,false,false,0,0,false⟩:=by simp[frm,k1,k2,k3,k4,k5,k6,k7,k8,k9,k10,k11,k12]
 rw[hz];go_enter Tryz.func176,Tryz.ntmps176
 go_wp2;refine bodyPost_ret (v:=frmV ⟨false,false,false,false,0,0,false⟩) ?_ rfl ⟨rfl,?_⟩
 ·simp[results,Tryz.results176,go_sem]
 ·exact(Below.refl _ _).alloc (Nat.le_refl _) _
theorem nameAs_any (s:ByteArray) (b:Bool) (w:World) (hs:s.size<=maxLen):Calls Tryz.prog 177 #[.string s,.bool b] w fun e w'=>e=.returned (.bool (if b then nmB s else s.toList.isEmpty))/\w'=w:=by
 cases b with
 | true =>
  have HN:=Hid.mk (fun w=>implNameOk_any s w hs);go_enter Tryz.func177,Tryz.ntmps177
  go_wp2_with fail
  refine(HN.out _).mono ?_;rintro e w1 ⟨rfl,hw⟩;subst hw;go_wp2;go_ret;exact⟨rfl,rfl⟩
 | false =>
  have hq:(s.toList==[])=s.toList.isEmpty:=(by cases s.toList <;> rfl);go_enter Tryz.func177,Tryz.ntmps177
  go_wp2;go_ret;exact⟨ret_tb (by simp),rfl⟩
theorem blockAs_any (ao:Option Addr) (n cap:Nat) (b:Bool) (w:World):Calls Tryz.prog 178 #[.slice ao n cap,.bool b] w fun e w'=>e=.returned (.bool (n==0||(b&&decide (n<60))))/\w'=w:=by
 by_cases h0:n=0
 ·subst h0
  go_enter Tryz.func178,Tryz.ntmps178
  go_wp2;go_ret;exact⟨ret_tb (by simp),rfl⟩
 ·have h0':((n:Int)==0)=false:=beq_eq_false_iff_ne.2 (by omega)
  have h1:(n==0)=false:=beq_eq_false_iff_ne.2 h0;rw[h1];cases b with
  | false =>
   go_enter Tryz.func178,Tryz.ntmps178
   go_wp2;go_ret;exact⟨ret_tb (by simp),rfl⟩
  | true =>
   by_cases h6:n<60
   ·have h6':(n:Int)<60:=by omega
    go_enter Tryz.func178,Tryz.ntmps178
    go_wp2;go_ret;exact⟨ret_tb (by rw[decide_eq_true h6];rfl),rfl⟩
   ·have h6':¬ (n:Int)<60:=by omega
    go_enter Tryz.func178,Tryz.ntmps178
    go_wp2;go_ret;exact⟨ret_tb rfl,rfl⟩
theorem stmtTerms_any (t:St) (B:Nat->Prop) (xo:Option Addr) (xc:Nat) (va vb:Value) (w:World) (h:El w B t.x (.slice xo t.x.length xc)) (hs:∀ e∈t.x,ShX e) (hva:∃ o n c,va=.slice o n c) (hvb:∃ o n c,vb=.slice o n c) :
  Calls Tryz.prog 179 #[st t.k t.s t.t (.slice xo t.x.length xc) va vb] w fun e w'=>e=.returned (.bool (t.x.all okE&&callB t.k t.x))/\Below w.heap.size w w':=by
 obtain⟨yo,yn,yc,rfl⟩:=hva;obtain⟨zo,zn,zc,rfl⟩:=hvb;have HR:Hid ((t.x.all okE&&callB t.k t.x)=t.x.all fun e=>okE e&&(t.k != 12||e.k==11)):=by
  show _=_
  unfold callB;generalize t.x=l;generalize (t.k != 12)=c;induction l with
  | nil=>cases c <;> rfl
  | cons e r ih =>
   simp only[List.all_cons] at ih |-;rw[<- ih];cases okE e <;> cases r.all okE <;> cases c <;> cases (e.k==11) <;> simp
 obtain⟨R,hR⟩:∃ R,(t.x.all okE&&callB t.k t.x)=R:=⟨_,rfl⟩;rw[hR] at HR |-;clear hR;obtain⟨hq,hl2⟩:∃ q:t.x.length<=xc,xc<=maxLen:=by obtain⟨_,_,e,h1,h2,_⟩:=h.len;cases e;exact⟨h1,h2⟩
 obtain⟨k,hk⟩:∃ k,t.k=k:=⟨_,rfl⟩;obtain⟨s,hsn⟩:∃ s,t.s=s:=⟨_,rfl⟩;obtain⟨u,hun⟩:∃ u,t.t=u:=⟨_,rfl⟩;obtain⟨l,hln⟩:∃ l,t.x=l:=⟨_,rfl⟩;rw[hk,hln] at HR;rw[hk,hsn,hun,hln];rw[hln] at h hs hq;clear hk hsn hun hln;have hm:xc<=9223372036854775807:=by unfold maxLen at hl2;omega
 have HH:=Hid.mk h;have HX:=Hid.mk hs;clear h hl2 hs;have B0:Below w.heap.size w (w.alloc (.cells #[.int .i64 k,.string s,.string u,.slice xo l.length xc,.slice yo yn yc,.slice zo zn zc] 52)):=(Below.refl _ _).alloc (Nat.le_refl _) _;have B01:Below (w.heap.size+1) (w.alloc (.cells #[.int .i64 k,.string s,.string u,.slice xo l.length xc,.slice yo yn yc,.slice zo zn zc] 52)) (w.alloc (.cells #[.int .i64 k,.string s,.string u,.slice xo l.length xc,.slice yo yn yc,.slice zo zn zc] 52)):=Below.refl _ _;go_enter Tryz.func179,Tryz.ntmps179
 go_wp2;go_loopw [8] (fun i wr=>∃ (k1:Nat),k1<=l.length/\i=.int .i64 k1/\Hid (∀ j (hj:j<l.length),j<k1->(okE l[j]&&(k != 12||l[j].k==11))=true)/\Below (w.heap.size+1) (w.alloc (.cells #[.int .i64 k,.string s,.string u,.slice xo l.length xc,.slice yo yn yc,.slice zo zn zc] 52)) wr) (fun i _=>l.length-(intOf i).toNat)
 case atStart=>exact⟨0,Nat.zero_le _,rfl,fun j _ hj=>absurd hj (Nat.not_lt_zero j),B01⟩
 case round =>
  obtain⟨k1,hk,rfl,Ho,hbel⟩:=hrel;clear B01;have hc1:=fun o=>hbel.cell (p:=⟨w.heap.size,o,none⟩) (by simp);have hbw:=B0.trans (hbel.mono (by omega));have hs1:=hbel.size;simp at hs1;by_cases hkl:k1<l.length
  ·have hi1:(k1:Int)<(l.length:Int):=by omega
   obtain⟨bb,off,V,rfl,hel⟩:=HH.out.elems (by intro hn;rw[hn] at hkl;simp at hkl);obtain⟨h3,hsub,hss⟩:=hel k1 hkl;have hall:ShX l[k1]:=HX.out _ (List.getElem_mem hkl);have HNO:Hid ((okE l[k1]&&(k != 12||l[k1].k==11))=false->R=false):=by
    intro hf;rw[HR.out];cases hb:(l.all fun e=>okE e&&(k != 12||e.k==11)) with
    | false=>rfl
    | true=>have:=List.all_eq_true.1 hb _ (List.getElem_mem hkl);rw[hf] at this;cases this
   have HO2:Hid ((okE l[k1]&&(k != 12||l[k1].k==11))=true->∀ j (hj:j<l.length),j<k1+1->(okE l[j]&&(k != 12||l[j].k==11))=true):=by
    intro hne j hj hj1;by_cases hj2:j<k1
    ·exact Ho.out j hj hj2
    ·obtain rfl:j=k1:=by omega
     exact hne
   obtain⟨t',ht⟩:∃ t,l[k1]=t:=⟨_,rfl⟩;rw[ht] at h3 hsub hss HNO HO2 hall;clear ht hel;obtain⟨c0,cn,c1,c2⟩:=h3.kept (w':=wr) (hbw.block bb (World.block_lt_of_cell? w _ h3.1));have HCall:=Hid.mk (fun(w':World) (hb:Below w.heap.size w w')=>implExprOk_any t' B (V k1) w' (hsub.grow hb) hall);obtain⟨ok,hok⟩:∃ ok,okE t'=ok:=⟨_,rfl⟩;obtain⟨tk,htk⟩:∃ tk,t'.k=tk:=⟨_,rfl⟩;obtain⟨tn,htn⟩:∃ tn,t'.n=tn:=⟨_,rfl⟩;obtain⟨ts,hts⟩:∃ ts,t'.s=ts:=⟨_,rfl⟩;obtain⟨av,cv,hv,-,-,-⟩:=hsub.len;rw[hok,htk,htn,hts,hv] at HCall;rw[htk] at c0;rw[htn] at cn;rw[hts] at c1;rw[hv] at c2;rw[hok,htk] at HNO HO2;have B2:=hbw.alloc (by omega:w.heap.size<=wr.heap.size) (.cells #[.int .i64 tk,.int .i64 tn,.string ts,.slice av t'.l.length cv] 54);have D2:=hbel.alloc hs1 (.cells #[.int .i64 tk,.int .i64 tn,.string ts,.slice av t'.l.length cv] 54);clear hsub hss h3 hok htk htn hts hv hall hbw;have hd:∀ w2,Below (wr.heap.size+1) (wr.alloc (.cells #[.int .i64 tk,.int .i64 tn,.string ts,.slice av t'.l.length cv] 54)) w2->(∀ o,w2.cell? ⟨w.heap.size,o,none⟩=(w.alloc (.cells #[.int .i64 k,.string s,.string u,.slice (some ⟨bb,off,none⟩) l.length xc,.slice yo yn yc,.slice zo zn zc] 52)).cell? ⟨w.heap.size,o,none⟩)/\∀ o,w2.cell? ⟨wr.heap.size,o,none⟩=(wr.alloc (.cells #[.int .i64 tk,.int .i64 tn,.string ts,.slice av t'.l.length cv] 54)).cell? ⟨wr.heap.size,o,none⟩:=by
    intro w2 hw;refine⟨fun o=>?_,fun o=>hw.cell (p:=⟨wr.heap.size,o,none⟩) (by simp)⟩;rw[hw.cell (p:=⟨w.heap.size,o,none⟩) (by show w.heap.size<_;omega)];exact D2.cell (p:=⟨w.heap.size,o,none⟩) (by simp)
   have HD:=Hid.mk hd;clear hd hbel;cases ok with
   | false =>
    have HF:Hid (R=false):=HNO.out rfl;clear HNO HO2 HH HX HD D2;go_wp2_with fail
    refine(HCall.out _ B2).mono ?_;rintro e w2 ⟨rfl,hb2⟩;have B3:=B2.trans (hb2.mono (by simp;omega));clear B2 hb2 HCall hc1;go_wp2;go_ret;exact⟨ret_tb HF.out.symm,B3⟩
   | true =>
    by_cases hk12:k=12
    ·subst hk12
     by_cases htk:tk=11
     ·subst htk
      have HO3:=Hid.mk (HO2.out rfl);clear HNO HO2;go_wp2_with fail
      refine(HCall.out _ B2).mono ?_;rintro e w2 ⟨rfl,hb2⟩;have D3:=D2.trans (hb2.mono (by simp;omega));obtain⟨hd1,hd2⟩:=HD.out w2 (hb2.mono (by simp));clear B2 D2 hb2 HCall hc1 HD;go_wp2;go_roundw
      case rel=>exact⟨k1+1,by omega,by go_num,HO3,D3⟩
      case measure=>simp[intOf];omega
     ·have htb:(tk != 11)=true:=by simpa using htk
      have HF:Hid (R=false):=HNO.out (by simp[htk]);clear HNO HO2 HH HX;go_wp2_with fail
      refine(HCall.out _ B2).mono ?_;rintro e w2 ⟨rfl,hb2⟩;have B3:=B2.trans (hb2.mono (by simp;omega));obtain⟨hd1,hd2⟩:=HD.out w2 (hb2.mono (by simp));clear B2 D2 hb2 HCall hc1 HD;go_wp2;go_ret;exact⟨ret_tb HF.out.symm,B3⟩
    ·have hkb:(k==12)=false:=beq_eq_false_iff_ne.2 hk12
     have HO3:=Hid.mk (HO2.out (by simp[hk12]));clear HNO HO2;go_wp2_with fail
     refine(HCall.out _ B2).mono ?_;rintro e w2 ⟨rfl,hb2⟩;have D3:=D2.trans (hb2.mono (by simp;omega));obtain⟨hd1,hd2⟩:=HD.out w2 (hb2.mono (by simp));clear B2 D2 hb2 HCall hc1 HD;go_wp2;go_roundw
     case rel=>exact⟨k1+1,by omega,by go_num,HO3,D3⟩
     case measure=>simp[intOf];omega
  ·have e:k1=l.length:=by omega
   subst e;have HE:Hid (true=R):=by
    show _=_
    rw[HR.out,eq_comm,List.all_eq_true];intro x hx;obtain⟨j,hj,rfl⟩:=List.getElem_of_mem hx;exact Ho.out j hj hj
   clear Ho HR HH HX;go_wp2;go_ret;exact⟨ret_tb HE.out,hbw⟩
end Go.Proofs.YtkbijjkgfojchaaGreat
