/- The model's l12Both: whether a name is two things. .. -/
import Derived.Test.YtkbijjkgfojchaaGreatQNmOfW
import Derived.Test.YtkbijjkgfojchaaGreatQPgOkT
namespace Go.Proofs.YtkbijjkgfojchaaGreat
set_option maxHeartbeats 40000000
open Go.RowKit
set_option maxRecDepth 8000
set_option linter.unusedSimpArgs false
theorem FnAt.uniq {l:List Fu} {s:ByteArray} {m m':Int} (h:FnAt l s m) (h':FnAt l s m'):m=m':=by
 rcases h with⟨rfl,h⟩ | ⟨i,hi,rfl,h1,h2⟩
 ·rcases h' with⟨rfl,-⟩ | ⟨i',hi',rfl,h1',-⟩
  ·rfl
  ·rw[h i' hi'] at h1';cases h1'
 ·rcases h' with⟨rfl,h'⟩ | ⟨i',hi',rfl,h1',h2'⟩
  ·rw[h' i hi] at h1;cases h1
  ·rcases Nat.lt_trichotomy i i' with h | h | h
   ·rw[h2' i h] at h1;cases h1
   ·rw[h]
   ·rw[h2 i' h] at h1';cases h1'
theorem FnAt.ex (l:List Fu) (s:ByteArray):∃ m,FnAt l s m:=by
 have h:∀ k,k<=l.length->(∀ j (hj:j<l.length),j<k->(l[j].n.toList==s.toList)=false)\/∃ i,∃ h:i<l.length,(l[i].n.toList==s.toList)=true/\∀ j (hj:j<i),(l[j].n.toList==s.toList)=false:=by
  intro k;induction k with
  | zero=>intro _;exact .inl fun j _ h=>absurd h (Nat.not_lt_zero j)
  | succ k ih =>
   intro hk;rcases ih (by omega) with h | h
   ·cases hq:(l[k].n.toList==s.toList) with
    | true=>exact .inr ⟨k,by omega,hq,fun j hj=>h j (by omega) hj⟩
    | false =>
     refine .inl fun j hj hjk=>?_;by_cases e:j<k
     ·exact h j hj e
     ·obtain rfl:j=k:=by omega
      exact hq
   ·exact .inr h
 rcases h l.length (Nat.le_refl _) with h | ⟨i,hi,h1,h2⟩
 ·exact⟨-1,.inl ⟨rfl,fun j hj=>h j hj hj⟩⟩
 ·exact⟨i,.inr ⟨i,hi,rfl,h1,h2⟩⟩
theorem FnAt.iff {p:Pg} {s:ByteArray} {m:Int} (h:FnAt p.f s m):0<=m↔FnN p s:=by
 rcases h with⟨rfl,h⟩ | ⟨i,hi,rfl,h1,-⟩
 ·constructor
  ·intro h;omega
  ·rintro⟨f,hf,rfl⟩
   obtain⟨j,hj,rfl⟩:=List.getElem_of_mem hf;have:=h j hj;simp at this
 ·constructor
  ·intro _
   exact⟨p.f[i],List.getElem_mem hi,bytes_eq (by simpa using h1)⟩
  ·intro _;omega
theorem l10FnB_any (p:Pg) (B:Nat->Prop) (x y:Value) (s:ByteArray) (w:World) (m:Int) (hm:FnAt p.f s m) (hx:∃ o n c,x=.slice o n c) (hy:Fl w B p.f y) :
  Calls Tryz.prog 41 #[pgV x y,.string s] w fun e w'=>e=.returned (.int .i64 m)/\Below w.heap.size w w' :=
 (l10Fn_any p B x y s w hx hy).mono fun _ _ ⟨m',he,h,hb⟩=>by
  obtain rfl:=hm.uniq h;exact⟨he,hb⟩
theorem l8HasB_any (xs:List ByteArray) (B:Nat->Prop) (v:Value) (s:ByteArray) (w:World) (h:Tb w B v xs) :
  Calls Tryz.prog 74 #[v,.string s] w fun e w'=>e=.returned (.bool (hasT xs s))/\Below w.heap.size w w' :=
 (l8HasTb_any xs B v s w h).mono fun _ _ ⟨he,hw⟩=>⟨he,hw▸Below.refl _ _⟩
def BothM (m:Ms) (p:Pg):Prop:=(∃ s∈m.vs,s∈m.ts\/FnN p s)\/(∃ s∈m.ts,FnN p s)\/∃ f∈p.f,∃ s∈f.ps,s∈m.ts\/FnN p s
theorem bothM_iff (p:Pg):BothM (Ms.of p) p↔BothP p:=by
 obtain⟨h1,h2,-,-⟩:=Ms.of_spec p;unfold BothM BothP ParP;constructor
 ·rintro(⟨s,hs,h⟩ | ⟨s,hs,h⟩ | ⟨f,hf,s,hs,h⟩)
  ·exact .inl ⟨s,.inl ((h1 s).1 hs),h.imp_left (h2 s).1⟩
  ·exact .inr ⟨s,(h2 s).1 hs,h⟩
  ·exact .inl ⟨s,.inr ⟨f,hf,hs⟩,h.imp_left (h2 s).1⟩
 ·rintro(⟨s,hs | ⟨f,hf,hs⟩,h⟩ | ⟨s,hs,h⟩)
  ·exact .inl ⟨s,(h1 s).2 hs,h.imp_left (h2 s).2⟩
  ·exact .inr (.inr ⟨f,hf,s,hs,h.imp_left (h2 s).2⟩)
  ·exact .inr (.inl ⟨s,(h2 s).2 hs,h⟩)
theorem l12Both_any (p:Pg) (B:Nat->Prop) (x y:Value) (w:World) (hx:∃ o n c,x=.slice o n c) (hy:Fl w B p.f y) (ub:Nat) (c:Value) (ps:List ByteArray) (fn line:Bool) (m:Ms) (hU:U7 w ub ps fn line m c) :
  Calls Tryz.prog 40 #[pgV x y,.pointer (some ⟨ub,0,none⟩)] w fun e w'=>∃ b:Bool,e=.returned (.bool b)/\(b=true↔BothM m p)/\Below w.heap.size w w':=by
 obtain⟨xo,xn,xc,rfl⟩:=hx;obtain⟨yo,yc,rfl,hy1,hy2,-⟩:=hy.len;have hym:yc<=9223372036854775807:=by unfold maxLen at hy2;omega
 obtain⟨v,t,pv,hU⟩:=hU;obtain⟨vo,vc,rfl,hv1,hv2,-⟩:=hU.hv.len;obtain⟨to',tc,rfl,ht1,ht2,-⟩:=hU.ht.len;have hvm:vc<=9223372036854775807:=by unfold maxLen at hv2;omega
 have htm:tc<=9223372036854775807:=by unfold maxLen at ht2;omega
 have A0:Below w.heap.size w (w.alloc (.cells #[.slice xo xn xc,.slice yo p.f.length yc] 27)):=(Below.refl _ _).alloc (Nat.le_refl _) _;have HU:=Hid.mk (hU.grow A0);have HY:=Hid.mk (hy.grow A0);have HPB:=Hid.mk (heap_alloc_new w (.cells #[.slice xo xn xc,.slice yo p.f.length yc] 27));have HA0:=Hid.mk A0;have HW:Hid (w.heap.size<(w.alloc (.cells #[.slice xo xn xc,.slice yo p.f.length yc] 27)).heap.size):=by unfold Hid;simp
 have HYES:Hid (∀ b:Bool,b=true->BothM m p->(b=true↔BothM m p)):=fun b hb h=>⟨fun _=>h,fun _=>hb⟩;clear hU hy hy2 hv2 ht2 A0;go_enter Tryz.func40,Tryz.ntmps40
 go_upto_region 1 with fail
 generalize w.alloc (.cells #[.slice xo xn xc,.slice yo p.f.length yc] 27)=wq at *;obtain⟨pb,hpb⟩:∃ n,w.heap.size=n:=⟨_,rfl⟩;have HPBN:=Hid.mk hpb;rw[hpb] at HPB HW HA0 |-;clear hpb;obtain⟨yn,hyn⟩:∃ n,p.f.length=n:=⟨_,rfl⟩;obtain⟨vn,hvn⟩:∃ n,m.vs.length=n:=⟨_,rfl⟩;obtain⟨tn,htn⟩:∃ n,m.ts.length=n:=⟨_,rfl⟩;have HYN:=Hid.mk hyn;have HVN:=Hid.mk hvn;have HTN:=Hid.mk htn;rw[hyn] at HY HPB hy1 |-;rw[hvn] at HU hv1;rw[htn] at HU ht1;clear hyn hvn htn;have c0:∀ wr,Below wq.heap.size wq wr->∀ o,wr.cell? ⟨pb,o,none⟩=#[Value.slice xo xn xc,.slice yo yn yc][o]?:=fun wr hb o=>cell_of_row wr pb o _ _ (0,0) ((hb.block pb HW.out).trans HPB.out);have HC0:=Hid.mk c0;clear c0;go_wp2;go_loopw [5] (fun i wr=>∃ k1:Nat,k1<=vn/\i=.int .i64 k1/\Hid (∀ j (hj:j<m.vs.length),j<k1->¬ (m.vs[j]∈m.ts\/FnN p m.vs[j]))/\Hid (Below wq.heap.size wq wr)) (fun i _=>vn-(intOf i).toNat)
 case atStart=>exact⟨0,Nat.zero_le _,rfl,fun j _ h=>absurd h (Nat.not_lt_zero j),Below.refl _ _⟩
 case round =>
  obtain⟨k1,hk,rfl,Ho,HB⟩:=hrel;have HUr:=Hid.mk (HU.out.grow HB.out);have HYr:=Hid.mk (HY.out.grow HB.out);have hc0:=HC0.out wr HB.out;have u0:=HUr.out.cell 0;have u1:=HUr.out.cell 1;simp at u0 u1;have p0:=hc0 0;have p1:=hc0 1;simp at p0 p1;by_cases hkl:k1<vn
  ·have hi1:(k1:Int)<(vn:Int):=by omega
   have hkx:k1<m.vs.length:=(by rw[HVN.out];exact hkl);obtain⟨b,off,rfl,-,hcl⟩:=HUr.out.hv.cells (by intro hn;rw[hn] at hkx;simp at hkx);have hcs:=hcl k1 hkx;obtain⟨g,hg⟩:=FnAt.ex p.f m.vs[k1];have HF:Hid (0<=g↔FnN p m.vs[k1]):=hg.iff;have HHT:Hid (hasT m.ts m.vs[k1]=true↔m.vs[k1]∈m.ts):=hasT_iff;have cH:=Hid.mk (fun d os=>Calls.regrown_of (w:=wr) (d:=d) (os:=os) (l8HasB_any m.ts _ _ m.vs[k1] _ (HUr.out.ht.grow (below_regrown wr d os))));have cF:=Hid.mk (fun d os=>Calls.regrown_of (w:=wr) (d:=d) (os:=os) (l10FnB_any p B (.slice xo xn xc) _ m.vs[k1] _ g hg ⟨_,_,_,rfl⟩ (HYr.out.grow (below_regrown wr d os))));have HM:Hid (m.vs[k1]∈m.ts\/FnN p m.vs[k1]->BothM m p):=fun h=>.inl ⟨_,List.getElem_mem hkx,h⟩;have HO2:Hid (¬ (m.vs[k1]∈m.ts\/FnN p m.vs[k1])->∀ j (hj:j<m.vs.length),j<k1+1->¬ (m.vs[j]∈m.ts\/FnN p m.vs[j])):=by
    intro h j hj hj1;by_cases e:j<k1
    ·exact Ho.out j hj e
    ·obtain rfl:j=k1:=by omega
     exact h
   obtain⟨s,hs⟩:∃ s,m.vs[k1]=s:=⟨_,rfl⟩;rw[hs] at hcs HF HHT cH cF HM HO2;have a0:=cell_regrown u0;have a1:=cell_regrown u1;have a2:=cell_regrown p0;have a3:=cell_regrown p1;have a4:=cell_regrown hcs;obtain⟨R,hR⟩:∃ R,hasT m.ts s=R:=⟨_,rfl⟩;rw[hR] at HHT cH;clear hs hcl hkx hg hR Ho hc0;cases R with
   | true =>
    have HBO:=Hid.mk (HM.out (.inl (HHT.out.1 rfl)));clear HM HO2 HF HHT cF;go_wp2_with fail
    refine wp_region_quiet_below (by kernel_rfl) (by kernel_rfl) (Qt.out ?_)
    iterate 11
     refine Qt.step (fun K hK=>?_);go_simp;refine hK _ ?_;clear hK K
    refine Qt.step (fun K hK=>?_);go_simp;apply Exists.intro
    refine⟨fun _=>?_,hK _ ?_⟩;exact cH.out _ _
    iterate 12
     clear hK K;refine Qt.step (fun K hK=>?_);go_simp;refine hK _ ?_
    clear hK K;refine Qt.nil ?_;intro w6 hw';obtain⟨⟨dq,osq⟩,hw''⟩:=hw';have hb6:Below wr.heap.size wr w6:=(by rw[hw''];exact below_regrown _ _ _);clear hw'';have B6:=HB.out.trans (hb6.mono HB.out.size);have BF:Hid (Below w.heap.size w w6):=(by show Below w.heap.size w w6;rw[HPBN.out];exact HA0.out.trans (B6.mono (by have:=HW.out;omega)));clear hb6 a0 a1 a2 a3 a4 cH B6 u0 u1 p0 p1 hcs;go_wp2;go_ret;exact⟨true,rfl,⟨fun _=>HBO.out,fun _=>rfl⟩,BF.out⟩
   | false =>
    have HNT:Hid (¬ s∈m.ts):=fun h=>by cases HHT.out.2 h
    clear HHT;by_cases hg0:0<=g
    ·have hgb:(decide (0<=g))=true:=decide_eq_true hg0
     have HBO:=Hid.mk (HM.out (.inr (HF.out.1 hg0)));clear HM HO2 HF HNT;go_wp2_with fail
     refine wp_region_quiet_below (by kernel_rfl) (by kernel_rfl) (Qt.out ?_)
     iterate 11
      refine Qt.step (fun K hK=>?_);go_simp;refine hK _ ?_;clear hK K
     refine Qt.step (fun K hK=>?_);go_simp;apply Exists.intro
     refine⟨fun _=>?_,hK _ ?_⟩;exact cH.out _ _
     iterate 9
      clear hK K;refine Qt.step (fun K hK=>?_);go_simp;refine hK _ ?_
     clear hK K;refine Qt.step (fun K hK=>?_);go_simp;apply Exists.intro
     refine⟨fun _=>?_,hK _ ?_⟩;exact cF.out _ _
     iterate 2
      clear hK K;refine Qt.step (fun K hK=>?_);go_simp;refine hK _ ?_
     clear hK K;refine Qt.nil ?_;intro w6 hw';obtain⟨⟨dq,osq⟩,hw''⟩:=hw';have hb6:Below wr.heap.size wr w6:=(by rw[hw''];exact below_regrown _ _ _);clear hw'';have B6:=HB.out.trans (hb6.mono HB.out.size);have BF:Hid (Below w.heap.size w w6):=(by show Below w.heap.size w w6;rw[HPBN.out];exact HA0.out.trans (B6.mono (by have:=HW.out;omega)));clear hb6 a0 a1 a2 a3 a4 cH cF B6 u0 u1 p0 p1 hcs;go_wp2;go_ret;exact⟨true,rfl,⟨fun _=>HBO.out,fun _=>rfl⟩,BF.out⟩
    ·have hgb:(decide (0<=g))=false:=decide_eq_false hg0
     have HO3:=Hid.mk (HO2.out (fun h=>by
      rcases h with h | h
      ·exact HNT.out h
      ·exact hg0 (HF.out.2 h)))
     clear HM HO2 HF HNT;go_wp2_with fail
     refine wp_region_quiet_below (by kernel_rfl) (by kernel_rfl) (Qt.out ?_)
     iterate 11
      refine Qt.step (fun K hK=>?_);go_simp;refine hK _ ?_;clear hK K
     refine Qt.step (fun K hK=>?_);go_simp;apply Exists.intro
     refine⟨fun _=>?_,hK _ ?_⟩;exact cH.out _ _
     iterate 9
      clear hK K;refine Qt.step (fun K hK=>?_);go_simp;refine hK _ ?_
     clear hK K;refine Qt.step (fun K hK=>?_);go_simp;apply Exists.intro
     refine⟨fun _=>?_,hK _ ?_⟩;exact cF.out _ _
     iterate 2
      clear hK K;refine Qt.step (fun K hK=>?_);go_simp;refine hK _ ?_
     clear hK K;refine Qt.nil ?_;intro w6 hw';obtain⟨⟨dq,osq⟩,hw''⟩:=hw';have hb6:Below wr.heap.size wr w6:=(by rw[hw''];exact below_regrown _ _ _);clear hw'';have B6:=Hid.mk (HB.out.trans (hb6.mono HB.out.size));clear hb6 a0 a1 a2 a3 a4 cH cF u0 u1 p0 p1 hcs;go_wp2;go_roundw
     case rel=>exact⟨k1+1,by omega,by go_num,HO3,B6⟩
     case measure=>simp[intOf];omega
  ·have e:k1=vn:=by omega
   subst e;have HV:Hid (∀ s∈m.vs,¬ (s∈m.ts\/FnN p s)):=fun s hs=>by
    obtain⟨j,hj,rfl⟩:=List.getElem_of_mem hs;exact Ho.out j hj (by rw[<- HVN.out];exact hj)
   clear Ho HUr HYr u1 p0 p1;go_wp2;clear u0 hc0;go_loopw [6] (fun i wr=>∃ k1:Nat,k1<=tn/\i=.int .i64 k1/\Hid (∀ j (hj:j<m.ts.length),j<k1->¬ FnN p m.ts[j])/\Hid (Below wq.heap.size wq wr)) (fun i _=>tn-(intOf i).toNat)
   case atStart=>exact⟨0,Nat.zero_le _,rfl,fun j _ h=>absurd h (Nat.not_lt_zero j),HB⟩
   case round =>
    obtain⟨k1,hk,rfl,Ho,HB⟩:=hrel;have HUr:=Hid.mk (HU.out.grow HB.out);have HYr:=Hid.mk (HY.out.grow HB.out);have hc0:=HC0.out wr HB.out;have u1:=HUr.out.cell 1;simp at u1;have p0:=hc0 0;have p1:=hc0 1;simp at p0 p1;by_cases hkl:k1<tn
    ·have hi1:(k1:Int)<(tn:Int):=by omega
     have hkx:k1<m.ts.length:=(by rw[HTN.out];exact hkl);obtain⟨b,off,rfl,-,hcl⟩:=HUr.out.ht.cells (by intro hn;rw[hn] at hkx;simp at hkx);have hcs:=hcl k1 hkx;obtain⟨g,hg⟩:=FnAt.ex p.f m.ts[k1];have HF:Hid (0<=g↔FnN p m.ts[k1]):=hg.iff;have cF:=Hid.mk (fun d os=>Calls.regrown_of (w:=wr) (d:=d) (os:=os) (l10FnB_any p B (.slice xo xn xc) _ m.ts[k1] _ g hg ⟨_,_,_,rfl⟩ (HYr.out.grow (below_regrown wr d os))));have HM:Hid (FnN p m.ts[k1]->BothM m p):=fun h=>.inr (.inl ⟨_,List.getElem_mem hkx,h⟩);have HO2:Hid (¬ FnN p m.ts[k1]->∀ j (hj:j<m.ts.length),j<k1+1->¬ FnN p m.ts[j]):=by
      intro h j hj hj1;by_cases e:j<k1
      ·exact Ho.out j hj e
      ·obtain rfl:j=k1:=by omega
       exact h
     obtain⟨s,hs⟩:∃ s,m.ts[k1]=s:=⟨_,rfl⟩;rw[hs] at hcs HF cF HM HO2;have a1:=cell_regrown u1;have a2:=cell_regrown p0;have a3:=cell_regrown p1;have a4:=cell_regrown hcs;clear hs hcl hkx hg Ho hc0;by_cases hg0:0<=g
     ·have hgb:(decide (0<=g))=true:=decide_eq_true hg0
      have HBO:=Hid.mk (HM.out (HF.out.1 hg0));clear HM HO2 HF;go_wp2_with fail
      refine wp_region_quiet_below (by kernel_rfl) (by kernel_rfl) (Qt.out ?_)
      iterate 8
       refine Qt.step (fun K hK=>?_);go_simp;refine hK _ ?_;clear hK K
      refine Qt.step (fun K hK=>?_);go_simp;apply Exists.intro
      refine⟨fun _=>?_,hK _ ?_⟩;exact cF.out _ _;clear hK K;refine Qt.step (fun K hK=>?_);go_simp;refine hK _ ?_;clear hK K;refine Qt.nil ?_;intro w6 hw';obtain⟨⟨dq,osq⟩,hw''⟩:=hw';have hb6:Below wr.heap.size wr w6:=(by rw[hw''];exact below_regrown _ _ _);clear hw'';have B6:=HB.out.trans (hb6.mono HB.out.size);have BF:Hid (Below w.heap.size w w6):=(by show Below w.heap.size w w6;rw[HPBN.out];exact HA0.out.trans (B6.mono (by have:=HW.out;omega)));clear hb6 a1 a2 a3 a4 cF B6 u1 p0 p1 hcs;go_wp2;go_ret;exact⟨true,rfl,⟨fun _=>HBO.out,fun _=>rfl⟩,BF.out⟩
     ·have hgb:(decide (0<=g))=false:=decide_eq_false hg0
      have HO3:=Hid.mk (HO2.out (fun h=>hg0 (HF.out.2 h)));clear HM HO2 HF;go_wp2_with fail
      refine wp_region_quiet_below (by kernel_rfl) (by kernel_rfl) (Qt.out ?_)
      iterate 8
       refine Qt.step (fun K hK=>?_);go_simp;refine hK _ ?_;clear hK K
      refine Qt.step (fun K hK=>?_);go_simp;apply Exists.intro
      refine⟨fun _=>?_,hK _ ?_⟩;exact cF.out _ _;clear hK K;refine Qt.step (fun K hK=>?_);go_simp;refine hK _ ?_;clear hK K;refine Qt.nil ?_;intro w6 hw';obtain⟨⟨dq,osq⟩,hw''⟩:=hw';have hb6:Below wr.heap.size wr w6:=(by rw[hw''];exact below_regrown _ _ _);clear hw'';have B6:=Hid.mk (HB.out.trans (hb6.mono HB.out.size));clear hb6 a1 a2 a3 a4 cF u1 p0 p1 hcs;go_wp2;go_roundw
      case rel=>exact⟨k1+1,by omega,by go_num,HO3,B6⟩
      case measure=>simp[intOf];omega
    ·have e:k1=tn:=by omega
     subst e;have HT:Hid (∀ s∈m.ts,¬ FnN p s):=fun s hs=>by
      obtain⟨j,hj,rfl⟩:=List.getElem_of_mem hs;exact Ho.out j hj (by rw[<- HTN.out];exact hj)
     clear Ho HUr HYr p0 p1;go_wp2;clear u1 hc0;go_loopw [7] (fun i wr=>∃ k1:Nat,k1<=yn/\i=.int .i64 k1/\Hid (∀ j (hj:j<p.f.length),j<k1->∀ s∈p.f[j].ps,¬ (s∈m.ts\/FnN p s))/\Hid (Below wq.heap.size wq wr)) (fun i _=>yn-(intOf i).toNat)
     case atStart=>exact⟨0,Nat.zero_le _,rfl,fun j _ h=>absurd h (Nat.not_lt_zero j),HB⟩
     case round =>
      obtain⟨k1,hk,rfl,Ho,HB⟩:=hrel;have hc0:=HC0.out wr HB.out;by_cases hkl:k1<yn
      ·have hi1:(k1:Int)<(yn:Int):=by omega
       have hkx:k1<p.f.length:=(by rw[HYN.out];exact hkl);obtain⟨b,off,X,Y,rfl,hel⟩:=HY.out.elems (by intro hn;rw[hn] at hkx;simp at hkx);obtain⟨⟨-,h1,-⟩,hps,-,-⟩:=hel k1 hkx;have HM:Hid (∀ s∈p.f[k1].ps,s∈m.ts\/FnN p s->BothM m p):=fun s hs h=>.inr (.inr ⟨_,List.getElem_mem hkx,s,hs,h⟩);have HO2:Hid ((∀ s∈p.f[k1].ps,¬ (s∈m.ts\/FnN p s))->∀ j (hj:j<p.f.length),j<k1+1->∀ s∈p.f[j].ps,¬ (s∈m.ts\/FnN p s)):=by
        intro h j hj hj1;by_cases e:j<k1
        ·exact Ho.out j hj e
        ·obtain rfl:j=k1:=by omega
         exact h
       obtain⟨f,hf⟩:∃ f,p.f[k1]=f:=⟨_,rfl⟩;rw[hf] at hps HM HO2;obtain⟨Xk,hX⟩:∃ x,X k1=x:=⟨_,rfl⟩;rw[hX] at h1 hps;obtain⟨po,pc,rfl,hpl,hpm,-⟩:=hps.len;have hpm2:pc<=9223372036854775807:=(by unfold maxLen at hpm;omega);have HPS:=Hid.mk hps;have HP1:=Hid.mk h1;have hp1:=(HB.out.cell (World.block_lt_of_cell? wq _ h1)).trans h1;clear hf hX hel hkx hps h1 Ho hpm;obtain⟨pn,hpn⟩:∃ n,f.ps.length=n:=⟨_,rfl⟩;have HPN:=Hid.mk hpn;rw[hpn] at HPS HP1 hp1 hpl;clear hpn;go_wp2;clear hc0 hp1;go_loopw [8] (fun q wr=>∃ k2:Nat,k2<=pn/\q=.int .i64 k2/\Hid (∀ j (hj:j<f.ps.length),j<k2->¬ (f.ps[j]∈m.ts\/FnN p f.ps[j]))/\Hid (Below wq.heap.size wq wr)) (fun q _=>pn-(intOf q).toNat)
       case atStart=>exact⟨0,Nat.zero_le _,rfl,fun j _ h=>absurd h (Nat.not_lt_zero j),HB⟩
       case round =>
        clear HB;obtain⟨k2,hk2,rfl,Hi,HB⟩:=hrel;have hc0:=HC0.out wr HB.out;have hp1:=(HB.out.cell (World.block_lt_of_cell? wq _ HP1.out)).trans HP1.out;by_cases hkl2:k2<pn
        ·have hi2:(k2:Int)<(pn:Int):=by omega
         have hkx2:k2<f.ps.length:=(by rw[HPN.out];exact hkl2);obtain⟨b2,off2,rfl,-,hcl⟩:=(HPS.out.grow HB.out).cells (by intro hn;rw[hn] at hkx2;simp at hkx2);have hcs:=hcl k2 hkx2;have HUr:=Hid.mk (HU.out.grow HB.out);have u1:=HUr.out.cell 1;simp at u1;obtain⟨g,hg⟩:=FnAt.ex p.f f.ps[k2];have HF:Hid (0<=g↔FnN p f.ps[k2]):=hg.iff;have HHT:Hid (hasT m.ts f.ps[k2]=true↔f.ps[k2]∈m.ts):=hasT_iff;have cH:=Hid.mk (fun(w':World) (hb:Below wr.heap.size wr w')=>l8HasB_any m.ts _ _ f.ps[k2] w' (HUr.out.ht.grow hb));have cF:=Hid.mk (fun(w':World) (hb:Below wq.heap.size wq w')=>l10FnB_any p B (.slice xo xn xc) _ f.ps[k2] w' g hg ⟨_,_,_,rfl⟩ (HY.out.grow hb));have HM2:Hid (f.ps[k2]∈m.ts\/FnN p f.ps[k2]->BothM m p):=HM.out _ (List.getElem_mem hkx2);have HO3:Hid (¬ (f.ps[k2]∈m.ts\/FnN p f.ps[k2])->∀ j (hj:j<f.ps.length),j<k2+1->¬ (f.ps[j]∈m.ts\/FnN p f.ps[j])):=by
          intro h j hj hj1;by_cases e:j<k2
          ·exact Hi.out j hj e
          ·obtain rfl:j=k2:=by omega
           exact h
         obtain⟨s,hs⟩:∃ s,f.ps[k2]=s:=⟨_,rfl⟩;rw[hs] at hcs HF HHT cH cF HM2 HO3;obtain⟨R,hR⟩:∃ R,hasT m.ts s=R:=⟨_,rfl⟩;rw[hR] at HHT cH;clear hs hcl hkx2 hg hR Hi;go_wp2_with fail
         refine(cH.out _ (Below.refl _ _)).mono ?_;rintro e w2 ⟨rfl,hb2⟩;have HB2:=Hid.mk (HB.out.trans (hb2.mono HB.out.size));have hc2:=HC0.out w2 HB2.out;clear hb2 hcs u1 hc0 hp1 cH HUr HB;cases R with
         | true =>
          have HBO:=Hid.mk (HM2.out (.inl (HHT.out.1 rfl)));have BF:Hid (Below w.heap.size w w2):=(by show Below w.heap.size w w2;rw[HPBN.out];exact HA0.out.trans (HB2.out.mono (by have:=HW.out;omega)));clear HM2 HO3 HF HHT cF;go_wp2;go_ret;exact⟨true,rfl,⟨fun _=>HBO.out,fun _=>rfl⟩,BF.out⟩
         | false =>
          have HNT:Hid (¬ s∈m.ts):=fun h=>by cases HHT.out.2 h
          clear HHT;go_wp2_with fail
          refine(cF.out _ HB2.out).mono ?_;rintro e w3 ⟨rfl,hb3⟩;have HB3:=Hid.mk (HB2.out.trans (hb3.mono HB2.out.size));clear hb3 hc2 cF HB2;by_cases hg0:0<=g
          ·have hgb:(decide (0<=g))=true:=decide_eq_true hg0
           have HBO:=Hid.mk (HM2.out (.inr (HF.out.1 hg0)));have BF:Hid (Below w.heap.size w w3):=(by show Below w.heap.size w w3;rw[HPBN.out];exact HA0.out.trans (HB3.out.mono (by have:=HW.out;omega)));clear HM2 HO3 HF HNT;go_wp2;go_ret;exact⟨true,rfl,⟨fun _=>HBO.out,fun _=>rfl⟩,BF.out⟩
          ·have hgb:(decide (0<=g))=false:=decide_eq_false hg0
           have HO4:=Hid.mk (HO3.out (fun h=>by
            rcases h with h | h
            ·exact HNT.out h
            ·exact hg0 (HF.out.2 h)))
           clear HM2 HO3 HF HNT;go_wp2;go_roundw
           case rel=>exact⟨k2+1,by omega,by go_num,HO4,HB3⟩
           case measure=>simp[intOf];omega
        ·have e:k2=pn:=by omega
         subst e;have HO5:=Hid.mk (HO2.out (fun s hs=>by
          obtain⟨j,hj,rfl⟩:=List.getElem_of_mem hs;exact Hi.out j hj (by rw[<- HPN.out];exact hj)))
         clear Hi HO2 HM;go_wp2;clear hc0 hp1;go_roundw
         case rel=>exact⟨k1+1,by omega,by go_num,HO5,HB⟩
         case measure=>simp[intOf];omega
      ·have e:k1=yn:=by omega
       subst e;have HNO:Hid (false=true↔BothM m p):=by
        constructor
        ·intro h;cases h
        ·rintro(⟨s,hs,h⟩ | ⟨s,hs,h⟩ | ⟨f,hf,s,hs,h⟩)
         ·exact absurd h (HV.out s hs)
         ·exact absurd h (HT.out s hs)
         ·obtain⟨j,hj,rfl⟩:=List.getElem_of_mem hf
          exact absurd h (Ho.out j hj (by rw[<- HYN.out];exact hj) s hs)
       have BF:Hid (Below w.heap.size w wr):=(by show Below w.heap.size w wr;rw[HPBN.out];exact HA0.out.trans (HB.out.mono (by have:=HW.out;omega)));clear Ho HV HT;go_wp2;go_ret;exact⟨false,rfl,HNO.out,BF.out⟩
end Go.Proofs.YtkbijjkgfojchaaGreat
