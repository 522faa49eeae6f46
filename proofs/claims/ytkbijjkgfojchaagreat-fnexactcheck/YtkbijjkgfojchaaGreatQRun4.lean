/- The walk of a region that only reads,step by step,behind a structure: in a great frame Lean would else lay the whole r .. -/
import Derived.Lib.QuietBelow
import Derived.Test.YtkbijjkgfojchaaGreatQRexOkI
namespace Go.Proofs.YtkbijjkgfojchaaGreat
set_option maxHeartbeats 2000000
open Go.RowKit
variable {P:Program} {ops:Array Oper} {C:World->Prop} {Q:Act->Prop}
structure Qt (P:Program) (ops:Array Oper) (C:World->Prop) (Q:Act->Prop) (l:List Oper) (a:Act):Prop where
 out:wpQuiet P ops C Q l a
theorem Qt.step {a:Act} {o:Oper} {rest:List Oper}
  (h:∀ K:Act->Prop,(∀ a,Qt P ops C Q rest a->K a)->if Region.wanted o (yielded ops a.tmps) then o.quiet P a C K else K (a.put o.dst undef)):Qt P ops C Q (o :: rest) a :=
 ⟨wpQuiet_step fun K hK=>h K fun a ha=>hK a ha.out⟩
theorem Qt.nil {a:Act} (h:Q a):Qt P ops C Q [] a:=⟨wpQuiet_nil h⟩
set_option maxRecDepth 8000
theorem setB1_no {s:ByteArray} (h:s.size≠1):setB s 1=false:=by
 unfold setB;by_cases h1:1<=s.size
 ·rw[decide_eq_false (p:=s.size<=1) (by omega)];simp
 ·rw[decide_eq_false h1];simp
theorem setB1_yes {s:ByteArray} (h:s.size=1):setB s 1=rb ((s[0].toNat:Nat):Int):=by
 have e:List.range s.size=[0]:=by rw[h];rfl
 unfold setB risB;rw[decide_eq_true (by omega),decide_eq_true (by omega),e];simp[okAt,ba_eq s 0 (by omega)]
theorem okL_no {l:List Tr} {k:Nat} (h:k<l.length) (hk:l[k].okT=false):okL l=false:=by
 cases hb:okL l with
 | false=>rfl
 | true=>have:=(okL_iff l).1 hb _ (List.getElem_mem h);rw[hk] at this;cases this
theorem okL_yes {l:List Tr} (h:∀ j (hj:j<l.length),l[j].okT=true):okL l=true:=by
 rw[okL_iff];intro x hx;obtain⟨j,hj,rfl⟩:=List.getElem_of_mem hx;exact h j hj
theorem nodeB_kind {t:Tr} {j:Nat} (hj:j<t.l.length) (hk:t.l[j].k=t.k) (hr:repB t.k=false):nodeB t=false:=by
 have hl:¬ t.l.length=0:=by omega
 unfold nodeB;split
 ·simp[hl]
 split
 ·simp[hl]
 split
 ·simp[hl]
 split
 ·rw[kinds_yes hj hk];simp
 split
 ·rename_i h;rcases h with h | h | h <;> (rw[h] at hr;simp[repB] at hr)
 ·rfl
def OkC (t:Tr):Prop:=∀ (B:Nat->Prop) (v:Value) (w:World),Rl w B t.l v->t.s.size<=maxLen ->
 Calls Tryz.prog 197 #[rx t.k t.s v] w fun e w'=>e=.returned (.bool t.okT)/\Below w.heap.size w w'
theorem ok_step (t:Tr) (ih:∀ x∈t.l,OkC x):OkC t:=by
 intro B v w h hs;have HR10:=Hid.mk (fun w=>specSet_any t.s w hs);have H0:=Hid.mk (fun h=>nodeB0 (t:=t) h);have H1:=Hid.mk (fun h=>nodeB1 (t:=t) h);have H3:=Hid.mk (fun h=>nodeB3 (t:=t) h);have H4:=Hid.mk (fun h=>nodeB4 (t:=t) h);have H6:=Hid.mk (fun h=>nodeB6 (t:=t) h);have HX:=Hid.mk (fun h=>nodeBx (t:=t) h);have HKD:=Hid.mk (fun j hj hk hr=>nodeB_kind (t:=t) (j:=j) hj hk hr);have HT:=Hid.mk (okT_eq t);have HI:=Hid.mk ih;obtain⟨R,hR⟩:∃ R,t.okT=R:=⟨_,rfl⟩;obtain⟨nb,hnb⟩:∃ nb,nodeB t=nb:=⟨_,rfl⟩;obtain⟨k,hk⟩:∃ k,t.k=k:=⟨_,rfl⟩;obtain⟨s,hsn⟩:∃ s,t.s=s:=⟨_,rfl⟩;obtain⟨l,hln⟩:∃ l,t.l=l:=⟨_,rfl⟩;rw[hk,hsn,hR];rw[hnb,hk,hsn,hln] at H0 H1 H3 H4 H6;rw[hnb,hk] at HX;have HKD':Hid (∀ j (hj:j<l.length),l[j].k=k->repB k=false->nb=false):=by
  subst hln hnb hk;exact HKD.out
 rw[hR,hnb,hln] at HT;rw[hln] at HI h;rw[hsn] at hs HR10;clear hk hsn hln hnb hR HKD ih;have HL0:=Hid.mk (len0 l);obtain⟨ao,cap,rfl,hl1,hl2,hl3⟩:=h.len;have hm:cap<=9223372036854775807:=by unfold maxLen at hl2;omega
 have HH:=Hid.mk h;clear h hl2;have hsz:s.size<=9223372036854775807:=by unfold maxLen at hs;omega
 clear hs;have B0:Below w.heap.size w (w.alloc (.cells #[.int .i64 k,.string s,.slice ao l.length cap] 258)):=(Below.refl _ _).alloc (Nat.le_refl _) _;have B01:Below (w.heap.size+1) (w.alloc (.cells #[.int .i64 k,.string s,.slice ao l.length cap] 258)) (w.alloc (.cells #[.int .i64 k,.string s,.slice ao l.length cap] 258)):=Below.refl _ _;go_enter Tryz.func197,Tryz.ntmps197
 go_wp2;go_loopw [3] (fun i wr=>∃ (k1:Nat),k1<=l.length/\i=.int .i64 k1/\Hid (∀ j (hj:j<l.length),j<k1->l[j].okT=true)/\Hid (∀ j (hj:j<l.length),j<k1->(l[j].k=k->repB k=true))/\Below (w.heap.size+1) (w.alloc (.cells #[.int .i64 k,.string s,.slice ao l.length cap] 258)) wr) (fun i _=>l.length-(intOf i).toNat)
 case atStart=>exact⟨0,Nat.zero_le _,rfl,fun j _ hj=>absurd hj (Nat.not_lt_zero j),fun j _ hj=>absurd hj (Nat.not_lt_zero j),B01⟩
 case round =>
  obtain⟨k1,hk,rfl,Ho,Hk,hbel⟩:=hrel;clear B01;have hc1:=fun o=>hbel.cell (p:=⟨w.heap.size,o,none⟩) (by simp);have hbw:=B0.trans (hbel.mono (by omega));have hs1:=hbel.size;simp at hs1;by_cases hkl:k1<l.length
  ·have hi1:(k1:Int)<(l.length:Int):=by omega
   obtain⟨b,off,V,rfl,hel⟩:=HH.out.elems (by intro hn;rw[hn] at hkl;simp at hkl);obtain⟨h3,hsub,hss⟩:=hel k1 hkl;have hokc:OkC l[k1]:=HI.out _ (List.getElem_mem hkl);have HNO:=Hid.mk (fun h=>okL_no (l:=l) hkl h);have HNK:=Hid.mk (fun h1 h2=>HKD'.out k1 hkl h1 h2);have HO2:Hid (l[k1].okT=true->∀ j (hj:j<l.length),j<k1+1->l[j].okT=true):=by
    intro hne j hj hj1;by_cases hj2:j<k1
    ·exact Ho.out j hj hj2
    ·obtain rfl:j=k1:=by omega
     exact hne
   have HK2:Hid ((l[k1].k=k->repB k=true)->∀ j (hj:j<l.length),j<k1+1->(l[j].k=k->repB k=true)):=by
    intro hne j hj hj1;by_cases hj2:j<k1
    ·exact Hk.out j hj hj2
    ·obtain rfl:j=k1:=by omega
     exact hne
   obtain⟨t',ht⟩:∃ t,l[k1]=t:=⟨_,rfl⟩;rw[ht] at h3 hsub hss hokc HNO HNK HO2 HK2;clear ht hel HKD';obtain⟨c0,c1,c2⟩:=h3.kept (w':=wr) (hbw.block b (World.block_lt_of_cell? w _ h3.1));have hg:=hsub.grow hbw;have cA:=Hid.mk (fun d os=>Calls.regrown_of (w:=wr) (d:=d) (os:=os) (hokc B (V k1) _ (hg.grow (below_regrown wr d os)) hss));have a0:=cell_regrown c0;have a1:=cell_regrown c1;have a2:=cell_regrown c2;have b0:=cell_regrown (w:=wr) (a:=⟨w.heap.size,0,none⟩) (v:=.int .i64 k) (by rw[hc1];simp);have b1:=cell_regrown (w:=wr) (a:=⟨w.heap.size,1,none⟩) (v:=.string s) (by rw[hc1];simp);have b2:=cell_regrown (w:=wr) (a:=⟨w.heap.size,2,none⟩) (v:=.slice (some ⟨b,off,none⟩) l.length cap) (by rw[hc1];simp);have cB:=Hid.mk (fun d os=>Calls.regrown_of (w:=wr) (d:=d) (os:=os) ((specRepeat_any k _).mono (by rintro e w' ⟨rfl,rfl⟩;exact⟨rfl,Below.refl _ _⟩)));obtain⟨ok,hok⟩:∃ ok,t'.okT=ok:=⟨_,rfl⟩;obtain⟨tk,htk⟩:∃ tk,t'.k=tk:=⟨_,rfl⟩;obtain⟨ts,hts⟩:∃ ts,t'.s=ts:=⟨_,rfl⟩;obtain⟨av,cv,hv,-,-,-⟩:=hsub.len;rw[hok,htk,hts,hv] at cA;rw[htk] at a0 HNK HK2;rw[hts] at a1;rw[hv] at a2;rw[hok] at HNO HO2;clear hsub hss h3 hokc hg c0 c1 c2 hok htk hts hv;cases ok with
   | false =>
    have HR:Hid (false=R):=(by show _=_;rw[HT.out,HNO.out rfl];rfl);clear HNO HNK HO2 HK2 H0 H1 H3 H4 H6 HX HT HI HH;go_wp2_with fail
    clear hc1;refine wp_region_quiet_below (by kernel_rfl) (by kernel_rfl) (Qt.out ?_)
    iterate 5
     refine Qt.step (fun K hK=>?_);go_simp;refine hK _ ?_;clear hK K
    refine Qt.step (fun K hK=>?_);go_simp;apply Exists.intro
    refine⟨fun _=>?_,hK _ ?_⟩;exact cA.out _ _
    iterate 18
     clear hK K;refine Qt.step (fun K hK=>?_);go_simp;refine hK _ ?_
    clear hK K;refine Qt.nil ?_;intro w6 hw';obtain⟨⟨dq,osq⟩,hw''⟩:=hw';have hb6:Below wr.heap.size wr w6:=(by rw[hw''];exact below_regrown _ _ _);have B6:=hbel.trans (hb6.mono (by omega));clear hw'' a0 a1 a2 b0 b1 b2 cA hb6;go_wp2;go_ret;exact⟨ret_b HR.out,B0.trans (B6.mono (by omega))⟩
   | true =>
    have HO3:=Hid.mk (HO2.out rfl);by_cases hkk:tk=k
    ·have hkb:(tk==k)=true:=by simpa using hkk
     cases hrp:repB k with
     | false =>
      rw[hrp] at cB;have HR:Hid (false=R):=(by show _=_;rw[HT.out,HNK.out hkk hrp];simp);clear HNO HNK HO2 HK2 H0 H1 H3 H4 H6 HX HT HI HH hkk hrp;go_wp2_with fail
      clear hc1;refine wp_region_quiet_below (by kernel_rfl) (by kernel_rfl) (Qt.out ?_)
      iterate 5
       refine Qt.step (fun K hK=>?_);go_simp;refine hK _ ?_;clear hK K
      refine Qt.step (fun K hK=>?_);go_simp;apply Exists.intro
      refine⟨fun _=>?_,hK _ ?_⟩;exact cA.out _ _
      iterate 14
       clear hK K;refine Qt.step (fun K hK=>?_);go_simp;refine hK _ ?_
      clear hK K;refine Qt.step (fun K hK=>?_);go_simp;apply Exists.intro
      refine⟨fun _=>?_,hK _ ?_⟩;exact cB.out _ _
      iterate 3
       clear hK K;refine Qt.step (fun K hK=>?_);go_simp;refine hK _ ?_
      clear hK K;refine Qt.nil ?_;intro w6 hw';obtain⟨⟨dq,osq⟩,hw''⟩:=hw';have hb6:Below wr.heap.size wr w6:=(by rw[hw''];exact below_regrown _ _ _);have B6:=hbel.trans (hb6.mono (by omega));clear hw'' a0 a1 a2 b0 b1 b2 cA hb6;go_wp2;go_ret;exact⟨ret_b HR.out,B0.trans (B6.mono (by omega))⟩
     | true =>
      rw[hrp] at cB;clear HNO HNK HO2 HK2 H0 H1 H3 H4 H6 HX HT HI HH hkk hrp;go_wp2_with fail
      clear hc1;refine wp_region_quiet_below (by kernel_rfl) (by kernel_rfl) (Qt.out ?_)
      iterate 5
       refine Qt.step (fun K hK=>?_);go_simp;refine hK _ ?_;clear hK K
      refine Qt.step (fun K hK=>?_);go_simp;apply Exists.intro
      refine⟨fun _=>?_,hK _ ?_⟩;exact cA.out _ _
      iterate 14
       clear hK K;refine Qt.step (fun K hK=>?_);go_simp;refine hK _ ?_
      clear hK K;refine Qt.step (fun K hK=>?_);go_simp;apply Exists.intro
      refine⟨fun _=>?_,hK _ ?_⟩;exact cB.out _ _
      iterate 3
       clear hK K;refine Qt.step (fun K hK=>?_);go_simp;refine hK _ ?_
      clear hK K;refine Qt.nil ?_;intro w6 hw';obtain⟨⟨dq,osq⟩,hw''⟩:=hw';have hb6:Below wr.heap.size wr w6:=(by rw[hw''];exact below_regrown _ _ _);have B6:=hbel.trans (hb6.mono (by omega));clear hw'' a0 a1 a2 b0 b1 b2 cA hb6;go_wp2;go_roundw
      case rel=>exact⟨k1+1,by omega,by go_num,HO3,(fun _ _ _ _=>trivial),B6⟩
      case measure=>simp[intOf];omega
    ·have hkb:(tk==k)=false:=by simpa using hkk
     have HK3:=Hid.mk (HK2.out (fun h=>absurd h hkk));clear HNO HNK HO2 HK2 H0 H1 H3 H4 H6 HX HT HI HH hkk;go_wp2_with fail
     clear hc1;refine wp_region_quiet_below (by kernel_rfl) (by kernel_rfl) (Qt.out ?_)
     iterate 5
      refine Qt.step (fun K hK=>?_);go_simp;refine hK _ ?_;clear hK K
     refine Qt.step (fun K hK=>?_);go_simp;apply Exists.intro
     refine⟨fun _=>?_,hK _ ?_⟩;exact cA.out _ _
     iterate 18
      clear hK K;refine Qt.step (fun K hK=>?_);go_simp;refine hK _ ?_
     clear hK K;refine Qt.nil ?_;intro w6 hw';obtain⟨⟨dq,osq⟩,hw''⟩:=hw';have hb6:Below wr.heap.size wr w6:=(by rw[hw''];exact below_regrown _ _ _);have B6:=hbel.trans (hb6.mono (by omega));clear hw'' a0 a1 a2 b0 b1 b2 cA hb6;go_wp2;go_roundw
     case rel=>exact⟨k1+1,by omega,by go_num,HO3,HK3,B6⟩
     case measure=>simp[intOf];omega
  ·have e:k1=l.length:=by omega
   subst e;have HE:Hid (R=nb):=(by show _=_;rw[HT.out,okL_yes (fun j hj=>Ho.out j hj hj)];rfl);clear Ho HT HKD' HI;by_cases k1:k=1
   ·subst k1
    have HN:=Hid.mk (H1.out rfl);by_cases h1:s.size=1
    ·have HS:=Hid.mk (setB1_yes h1)
     have hc0:((s[0].toNat:Nat):Int)<=255:=(by have:=s[0].toNat_lt;omega);have hcp:(0:Int)<=((s[0].toNat:Nat):Int):=(by omega);have HB:=Hid.mk (specByte_any _ hcp hc0);have h1':((s.size:Int)==1)=true:=(by rw[h1];rfl);have h10:0<s.size:=(by omega);cases hb:rb ((s[0].toNat:Nat):Int) with
     | true =>
      have HR:Hid (((l.length:Int)==0)=R):=(by show _=_;rw[HE.out,HN.out,HS.out,hb,HL0.out];rfl);rw[hb] at HB;clear H0 H1 H3 H4 H6 HX HN HS hb HE;go_wp2_with (go_at_call 202;refine(HB.out _).mono ?_;rintro e w' ⟨rfl,rfl⟩)
      go_ret;exact⟨ret_b HR.out,hbw⟩
     | false =>
      have HR:Hid (false=R):=(by show _=_;rw[HE.out,HN.out,HS.out,hb];rfl);rw[hb] at HB;clear H0 H1 H3 H4 H6 HX HN HS hb HE;go_wp2_with (go_at_call 202;refine(HB.out _).mono ?_;rintro e w' ⟨rfl,rfl⟩)
      go_ret;exact⟨ret_b HR.out,hbw⟩
    ·have HR:Hid (false=R):=by show _=_;rw[HE.out,HN.out,setB1_no h1];rfl
     have h1':((s.size:Int)==1)=false:=beq_eq_false_iff_ne.2 (by omega);clear H0 H1 H3 H4 H6 HX HN HE;go_wp2;go_ret;exact⟨ret_b HR.out,hbw⟩
   by_cases k3:k=3
   ·subst k3
    have HN:=Hid.mk (H3.out rfl);cases hb:setB s 10 with
    | true =>
     have HR:Hid (((l.length:Int)==0)=R):=(by show _=_;rw[HE.out,HN.out,hb,HL0.out];rfl);rw[hb] at HR10;clear H0 H1 H3 H4 H6 HX HN hb HE;go_wp2_with (go_at_call 203;refine(HR10.out _).mono ?_;rintro e w' ⟨rfl,n,rfl⟩)
     go_ret;exact⟨ret_b HR.out,hbw.trans (Below.drewSelf _ _ _)⟩
    | false =>
     have HR:Hid (false=R):=(by show _=_;rw[HE.out,HN.out,hb];rfl);rw[hb] at HR10;clear H0 H1 H3 H4 H6 HX HN hb HE;go_wp2_with (go_at_call 203;refine(HR10.out _).mono ?_;rintro e w' ⟨rfl,n,rfl⟩)
     go_ret;exact⟨ret_b HR.out,hbw.trans (Below.drewSelf _ _ _)⟩
   by_cases k2:k=2
   ·subst k2
    have HN:=Hid.mk (H0.out (by omega));by_cases h0:l.length=0
    ·have HR:Hid (s.toList.isEmpty=R):=by show _=_;rw[HE.out,HN.out,decide_eq_true h0];simp
     have h0':((l.length:Int)==0)=true:=(by rw[h0];rfl);clear H0 H1 H3 H4 H6 HX HN HE;go_wp2;go_ret;exact⟨ret_b HR.out,hbw⟩
    ·have HR:Hid (false=R):=by show _=_;rw[HE.out,HN.out,decide_eq_false h0];simp
     have h0':((l.length:Int)==0)=false:=beq_eq_false_iff_ne.2 (by omega);clear H0 H1 H3 H4 H6 HX HN HE;go_wp2;go_ret;exact⟨ret_b HR.out,hbw⟩
   by_cases k9:k=9
   ·subst k9
    have HN:=Hid.mk (H0.out (by omega));by_cases h0:l.length=0
    ·have HR:Hid (s.toList.isEmpty=R):=by show _=_;rw[HE.out,HN.out,decide_eq_true h0];simp
     have h0':((l.length:Int)==0)=true:=(by rw[h0];rfl);clear H0 H1 H3 H4 H6 HX HN HE;go_wp2;go_ret;exact⟨ret_b HR.out,hbw⟩
    ·have HR:Hid (false=R):=by show _=_;rw[HE.out,HN.out,decide_eq_false h0];simp
     have h0':((l.length:Int)==0)=false:=beq_eq_false_iff_ne.2 (by omega);clear H0 H1 H3 H4 H6 HX HN HE;go_wp2;go_ret;exact⟨ret_b HR.out,hbw⟩
   by_cases k10:k=10
   ·subst k10
    have HN:=Hid.mk (H0.out (by omega));by_cases h0:l.length=0
    ·have HR:Hid (s.toList.isEmpty=R):=by show _=_;rw[HE.out,HN.out,decide_eq_true h0];simp
     have h0':((l.length:Int)==0)=true:=(by rw[h0];rfl);clear H0 H1 H3 H4 H6 HX HN HE;go_wp2;go_ret;exact⟨ret_b HR.out,hbw⟩
    ·have HR:Hid (false=R):=by show _=_;rw[HE.out,HN.out,decide_eq_false h0];simp
     have h0':((l.length:Int)==0)=false:=beq_eq_false_iff_ne.2 (by omega);clear H0 H1 H3 H4 H6 HX HN HE;go_wp2;go_ret;exact⟨ret_b HR.out,hbw⟩
   by_cases k11:k=11
   ·subst k11
    have HN:=Hid.mk (H0.out (by omega));by_cases h0:l.length=0
    ·have HR:Hid (s.toList.isEmpty=R):=by show _=_;rw[HE.out,HN.out,decide_eq_true h0];simp
     have h0':((l.length:Int)==0)=true:=(by rw[h0];rfl);clear H0 H1 H3 H4 H6 HX HN HE;go_wp2;go_ret;exact⟨ret_b HR.out,hbw⟩
    ·have HR:Hid (false=R):=by show _=_;rw[HE.out,HN.out,decide_eq_false h0];simp
     have h0':((l.length:Int)==0)=false:=beq_eq_false_iff_ne.2 (by omega);clear H0 H1 H3 H4 H6 HX HN HE;go_wp2;go_ret;exact⟨ret_b HR.out,hbw⟩
   by_cases k4:k=4
   ·subst k4
    have HN:=Hid.mk (H4.out (by omega));have HKN:Hid (kinds l 4=false):=kinds_no (fun j hj he=>by have:=Hk.out j hj (by omega);rw[he] at this;simp[repB] at this);by_cases h28:(2:Int)<=(l.length:Int)/\(l.length:Int)<=8
    ·have HR:Hid (s.toList.isEmpty=R):=by show _=_;rw[HE.out,HN.out,HKN.out,decide_eq_true (p:=2<=l.length) (by omega),decide_eq_true (p:=l.length<=8) (by omega)];simp
     have hin:=inB_yes h28;clear H0 H1 H3 H4 H6 HX HN HE h28;go_wp2_with (go_at_call 132;refine(l1In_any _ _ _ _).mono ?_;rintro e w' ⟨rfl,rfl⟩)
     go_ret;exact⟨ret_b HR.out,hbw⟩
    ·have HR:Hid (false=R):=by
      show _=_
      rw[HE.out,HN.out];by_cases h2:2<=l.length
      ·rw[decide_eq_false (p:=l.length<=8) (by omega)];simp
      ·rw[decide_eq_false h2];simp
     have hin:=inB_no h28;clear H0 H1 H3 H4 H6 HX HN HE h28;go_wp2_with (go_at_call 132;refine(l1In_any _ _ _ _).mono ?_;rintro e w' ⟨rfl,rfl⟩)
     go_ret;exact⟨ret_b HR.out,hbw⟩
   by_cases k5:k=5
   ·subst k5
    have HN:=Hid.mk (H4.out (by omega));have HKN:Hid (kinds l 5=false):=kinds_no (fun j hj he=>by have:=Hk.out j hj (by omega);rw[he] at this;simp[repB] at this);by_cases h28:(2:Int)<=(l.length:Int)/\(l.length:Int)<=8
    ·have HR:Hid (s.toList.isEmpty=R):=by show _=_;rw[HE.out,HN.out,HKN.out,decide_eq_true (p:=2<=l.length) (by omega),decide_eq_true (p:=l.length<=8) (by omega)];simp
     have hin:=inB_yes h28;clear H0 H1 H3 H4 H6 HX HN HE h28;go_wp2_with (go_at_call 132;refine(l1In_any _ _ _ _).mono ?_;rintro e w' ⟨rfl,rfl⟩)
     go_ret;exact⟨ret_b HR.out,hbw⟩
    ·have HR:Hid (false=R):=by
      show _=_
      rw[HE.out,HN.out];by_cases h2:2<=l.length
      ·rw[decide_eq_false (p:=l.length<=8) (by omega)];simp
      ·rw[decide_eq_false h2];simp
     have hin:=inB_no h28;clear H0 H1 H3 H4 H6 HX HN HE h28;go_wp2_with (go_at_call 132;refine(l1In_any _ _ _ _).mono ?_;rintro e w' ⟨rfl,rfl⟩)
     go_ret;exact⟨ret_b HR.out,hbw⟩
   by_cases k6:k=6
   ·subst k6
    have HN:=Hid.mk (H6.out (by omega));by_cases h1:l.length=1
    ·obtain⟨x,rfl⟩:=List.length_eq_one_iff.1 h1
     obtain⟨b,off,V,rfl,hel⟩:=HH.out.elems (by simp);obtain⟨h3,hsub,hss⟩:=hel 0 (by simp);obtain⟨c0,c1,c2⟩:=h3.kept (w':=wr) (hbw.block b (World.block_lt_of_cell? w _ h3.1));simp only[Nat.zero_mul,Nat.add_zero,List.getElem_cons_zero] at c0 c1 c2;have HQ:Hid ((s.toList.isEmpty&&!repB x.k)=R):=(by show _=_;rw[HE.out,HN.out];simp[headK]);obtain⟨q,hq⟩:∃ q,x.k=q:=⟨_,rfl⟩;rw[hq] at c0 HQ;have h1':((([x]:List Tr).length:Int)==1)=true:=(by simp);clear hel h3 hsub hss c1 c2 hq h1;cases hb:repB q with
     | true =>
      have HR:Hid (false=R):=(by show _=_;rw[<- HQ.out,hb];simp);clear H0 H1 H3 H4 H6 HX HN HE HQ HH Hk;go_wp2_with (go_at_call 201;refine(specRepeat_any _ _).mono ?_;rintro e w' ⟨rfl,rfl⟩)
      go_ret;exact⟨ret_b HR.out,hbw⟩
     | false =>
      have HR:Hid (s.toList.isEmpty=R):=(by show _=_;rw[<- HQ.out,hb];simp);clear H0 H1 H3 H4 H6 HX HN HE HQ HH Hk;go_wp2_with (go_at_call 201;refine(specRepeat_any _ _).mono ?_;rintro e w' ⟨rfl,rfl⟩)
      go_ret;exact⟨ret_b HR.out,hbw⟩
    ·have HR:Hid (false=R):=by show _=_;rw[HE.out,HN.out,decide_eq_false h1];simp
     have h1':((l.length:Int)==1)=false:=beq_eq_false_iff_ne.2 (by omega);clear H0 H1 H3 H4 H6 HX HN HE;go_wp2;go_ret;exact⟨ret_b HR.out,hbw⟩
   by_cases k7:k=7
   ·subst k7
    have HN:=Hid.mk (H6.out (by omega));by_cases h1:l.length=1
    ·obtain⟨x,rfl⟩:=List.length_eq_one_iff.1 h1
     obtain⟨b,off,V,rfl,hel⟩:=HH.out.elems (by simp);obtain⟨h3,hsub,hss⟩:=hel 0 (by simp);obtain⟨c0,c1,c2⟩:=h3.kept (w':=wr) (hbw.block b (World.block_lt_of_cell? w _ h3.1));simp only[Nat.zero_mul,Nat.add_zero,List.getElem_cons_zero] at c0 c1 c2;have HQ:Hid ((s.toList.isEmpty&&!repB x.k)=R):=(by show _=_;rw[HE.out,HN.out];simp[headK]);obtain⟨q,hq⟩:∃ q,x.k=q:=⟨_,rfl⟩;rw[hq] at c0 HQ;have h1':((([x]:List Tr).length:Int)==1)=true:=(by simp);clear hel h3 hsub hss c1 c2 hq h1;cases hb:repB q with
     | true =>
      have HR:Hid (false=R):=(by show _=_;rw[<- HQ.out,hb];simp);clear H0 H1 H3 H4 H6 HX HN HE HQ HH Hk;go_wp2_with (go_at_call 201;refine(specRepeat_any _ _).mono ?_;rintro e w' ⟨rfl,rfl⟩)
      go_ret;exact⟨ret_b HR.out,hbw⟩
     | false =>
      have HR:Hid (s.toList.isEmpty=R):=(by show _=_;rw[<- HQ.out,hb];simp);clear H0 H1 H3 H4 H6 HX HN HE HQ HH Hk;go_wp2_with (go_at_call 201;refine(specRepeat_any _ _).mono ?_;rintro e w' ⟨rfl,rfl⟩)
      go_ret;exact⟨ret_b HR.out,hbw⟩
    ·have HR:Hid (false=R):=by show _=_;rw[HE.out,HN.out,decide_eq_false h1];simp
     have h1':((l.length:Int)==1)=false:=beq_eq_false_iff_ne.2 (by omega);clear H0 H1 H3 H4 H6 HX HN HE;go_wp2;go_ret;exact⟨ret_b HR.out,hbw⟩
   by_cases k8:k=8
   ·subst k8
    have HN:=Hid.mk (H6.out (by omega));by_cases h1:l.length=1
    ·obtain⟨x,rfl⟩:=List.length_eq_one_iff.1 h1
     obtain⟨b,off,V,rfl,hel⟩:=HH.out.elems (by simp);obtain⟨h3,hsub,hss⟩:=hel 0 (by simp);obtain⟨c0,c1,c2⟩:=h3.kept (w':=wr) (hbw.block b (World.block_lt_of_cell? w _ h3.1));simp only[Nat.zero_mul,Nat.add_zero,List.getElem_cons_zero] at c0 c1 c2;have HQ:Hid ((s.toList.isEmpty&&!repB x.k)=R):=(by show _=_;rw[HE.out,HN.out];simp[headK]);obtain⟨q,hq⟩:∃ q,x.k=q:=⟨_,rfl⟩;rw[hq] at c0 HQ;have h1':((([x]:List Tr).length:Int)==1)=true:=(by simp);clear hel h3 hsub hss c1 c2 hq h1;cases hb:repB q with
     | true =>
      have HR:Hid (false=R):=(by show _=_;rw[<- HQ.out,hb];simp);clear H0 H1 H3 H4 H6 HX HN HE HQ HH Hk;go_wp2_with (go_at_call 201;refine(specRepeat_any _ _).mono ?_;rintro e w' ⟨rfl,rfl⟩)
      go_ret;exact⟨ret_b HR.out,hbw⟩
     | false =>
      have HR:Hid (s.toList.isEmpty=R):=(by show _=_;rw[<- HQ.out,hb];simp);clear H0 H1 H3 H4 H6 HX HN HE HQ HH Hk;go_wp2_with (go_at_call 201;refine(specRepeat_any _ _).mono ?_;rintro e w' ⟨rfl,rfl⟩)
      go_ret;exact⟨ret_b HR.out,hbw⟩
    ·have HR:Hid (false=R):=by show _=_;rw[HE.out,HN.out,decide_eq_false h1];simp
     have h1':((l.length:Int)==1)=false:=beq_eq_false_iff_ne.2 (by omega);clear H0 H1 H3 H4 H6 HX HN HE;go_wp2;go_ret;exact⟨ret_b HR.out,hbw⟩
   have HR:Hid (false=R):=(by show _=_;rw[HE.out,HX.out (by omega)]);clear H0 H1 H3 H4 H6 HX HE;go_wp2;go_ret;exact⟨ret_b HR.out,hbw⟩
theorem specOk_any (t:Tr):OkC t:=Tr.ind (P:=OkC) ok_step t
end Go.Proofs.YtkbijjkgfojchaaGreat
