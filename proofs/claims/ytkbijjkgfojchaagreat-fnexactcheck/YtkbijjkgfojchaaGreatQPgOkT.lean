/- Which programs are right: the model's l10Params and ProgOk. .. -/
import Derived.Test.YtkbijjkgfojchaaGreatQRun27
namespace Go.Proofs.YtkbijjkgfojchaaGreat
set_option maxHeartbeats 4000000
open Go.RowKit
set_option maxRecDepth 8000
theorem Tb.at' {w:World} {B:Nat->Prop} {ao:Option Addr} {n cap:Nat} {xs:List ByteArray} (h:Tb w B (.slice ao n cap) xs) (hne:xs≠[]):∃ b off,ao=some ⟨b,off,none⟩/\∀ k (hk:k<xs.length),w.cell? ⟨b,off+k,none⟩=some (.string xs[k]):=by
 obtain⟨_,_,e,_,_,_,_,h6⟩:=h;cases e;obtain⟨b,off,e,-,hc⟩:=h6 hne;exact⟨b,off,e,fun k hk=>by rw[hc k hk];simp[hk]⟩
theorem l10Params_any (l:List ByteArray) (B:Nat->Prop) (v:Value) (w:World) (h:Tb w B v l) :
  Calls Tryz.prog 70 #[v] w fun e w'=>e=.returned (.bool (paramsB l))/\Below w.heap.size w w':=by
 have HR0:Hid (paramsB l=true↔(∀ i (h:i<l.length),nmB l[i]=true/\hasT (l.take i) l[i]=false)/\l.length<=4):=paramsB_iff;obtain⟨R,hR⟩:∃ R,paramsB l=R:=⟨_,rfl⟩;rw[hR] at HR0 |-;clear hR;obtain⟨ao,cap,rfl,hl1,hl2,hl3⟩:=h.len;have hm:cap<=9223372036854775807:=by unfold maxLen at hl2;omega
 have HSZ:Hid (∀ s∈l,s.size<=maxLen):=by obtain⟨_,_,_,_,_,_,h,_⟩:=h;exact h
 have HH:=Hid.mk h;clear h hl2;go_enter Tryz.func70,Tryz.ntmps70
 go_wp2;go_loopw [3] (fun i wr=>∃ (k1:Nat),k1<=l.length/\i=.int .i64 k1/\Hid (∀ j (hj:j<l.length),j<k1->nmB l[j]=true/\hasT (l.take j) l[j]=false)/\Below w.heap.size w wr) (fun i _=>l.length-(intOf i).toNat)
 case atStart=>exact⟨0,Nat.zero_le _,rfl,fun j _ hj=>absurd hj (Nat.not_lt_zero j),Below.refl _ _⟩
 case round =>
  obtain⟨k1,hk,rfl,Ho,hbel⟩:=hrel;by_cases hkl:k1<l.length
  ·have hi1:(k1:Int)<(l.length:Int):=by omega
   obtain⟨b,off,rfl,hel⟩:=HH.out.at' (by intro hn;rw[hn] at hkl;simp at hkl);have hz:=HSZ.out _ (List.getElem_mem hkl);have hcell:=hel k1 hkl;have hlt:=World.block_lt_of_cell? w _ hcell;have c0:wr.cell? ⟨b,off+k1,none⟩=some (.string l[k1]):=(by rw[hbel.cell (p:=⟨b,off+k1,none⟩) hlt];exact hcell);have cN:=Hid.mk (fun d os=>Calls.regrown_of (w:=wr) (d:=d) (os:=os) (specNameOk_any l[k1] _ hz));have cH:=Hid.mk (fun d os=>Calls.regrown_of (w:=wr) (d:=d) (os:=os) ((hasT_any (l.take k1) b off k1 cap l[k1] _ (fun j hj=>by
    have hj':j<l.length:=(by simp at hj;omega);rw[((hbel.trans ((below_regrown wr d os).mono hbel.size))).cell (p:=⟨b,off+j,none⟩) hlt,hel j hj',List.getElem_take]) (by simp;omega) (by omega) hm).mono (fun e w' h=>⟨h.1,by rw[h.2];exact Below.refl _ _⟩)))
   have HNO:Hid (¬ (nmB l[k1]=true/\hasT (l.take k1) l[k1]=false)->R=false):=by
    intro hne;cases R with
    | false=>rfl
    | true=>exact absurd ((HR0.out.1 rfl).1 k1 hkl) hne
   have HO2:Hid ((nmB l[k1]=true/\hasT (l.take k1) l[k1]=false)->∀ j (hj:j<l.length),j<k1+1->nmB l[j]=true/\hasT (l.take j) l[j]=false):=by
    intro hne j hj hj1;by_cases hj2:j<k1
    ·exact Ho.out j hj hj2
    ·obtain rfl:j=k1:=by omega
     exact hne
   generalize hasT (l.take k1) l[k1]=ht at cH HNO HO2;generalize nmB l[k1]=nb at cN HNO HO2;generalize l[k1]=z at c0 cN cH;have a0:=cell_regrown c0;have hk1c:(k1:Int)<=(cap:Int):=(by omega);clear hel hcell c0 hz HR0;cases nb with
   | false =>
    have HG:Hid (R=false):=HNO.out (by simp);clear HNO HO2 Ho HH HSZ cH;go_wp2_with fail
    refine wp_region_quiet_below (by kernel_rfl) (by kernel_rfl) (Qt.out ?_)
    iterate 4
     refine Qt.step (fun K hK=>?_);go_simp;refine hK _ ?_;clear hK K
    refine Qt.step (fun K hK=>?_);go_simp;apply Exists.intro
    refine⟨fun _=>?_,hK _ ?_⟩;exact cN.out _ _
    iterate 11
     clear hK K;refine Qt.step (fun K hK=>?_);go_simp;refine hK _ ?_
    clear hK K;refine Qt.nil ?_;intro w6 hw';obtain⟨⟨dq,osq⟩,hw''⟩:=hw';have hb6:Below wr.heap.size wr w6:=(by rw[hw''];exact below_regrown _ _ _);have B6:=hbel.trans (hb6.mono hbel.size);clear hw'' a0 cN hb6;go_wp2;go_ret;exact⟨ret_tb HG.out.symm,B6⟩
   | true =>
    cases ht with
    | true =>
     have HG:Hid (R=false):=HNO.out (by simp);clear HNO HO2 Ho HH HSZ;go_wp2_with fail
     refine wp_region_quiet_below (by kernel_rfl) (by kernel_rfl) (Qt.out ?_)
     iterate 4
      refine Qt.step (fun K hK=>?_);go_simp;refine hK _ ?_;clear hK K
     refine Qt.step (fun K hK=>?_);go_simp;apply Exists.intro
     refine⟨fun _=>?_,hK _ ?_⟩;exact cN.out _ _
     iterate 9
      clear hK K;refine Qt.step (fun K hK=>?_);go_simp;refine hK _ ?_
     clear hK K;refine Qt.step (fun K hK=>?_);go_simp;apply Exists.intro
     refine⟨fun _=>?_,hK _ ?_⟩;exact cH.out _ _;clear hK K;refine Qt.step (fun K hK=>?_);go_simp;refine hK _ ?_;clear hK K;refine Qt.nil ?_;intro w6 hw';obtain⟨⟨dq,osq⟩,hw''⟩:=hw';have hb6:Below wr.heap.size wr w6:=(by rw[hw''];exact below_regrown _ _ _);have B6:=hbel.trans (hb6.mono hbel.size);clear hw'' a0 cN cH hb6;go_wp2;go_ret;exact⟨ret_tb HG.out.symm,B6⟩
    | false =>
     have HO3:=Hid.mk (HO2.out ⟨rfl,rfl⟩);clear HNO HO2 Ho;go_wp2_with fail
     refine wp_region_quiet_below (by kernel_rfl) (by kernel_rfl) (Qt.out ?_)
     iterate 4
      refine Qt.step (fun K hK=>?_);go_simp;refine hK _ ?_;clear hK K
     refine Qt.step (fun K hK=>?_);go_simp;apply Exists.intro
     refine⟨fun _=>?_,hK _ ?_⟩;exact cN.out _ _
     iterate 9
      clear hK K;refine Qt.step (fun K hK=>?_);go_simp;refine hK _ ?_
     clear hK K;refine Qt.step (fun K hK=>?_);go_simp;apply Exists.intro
     refine⟨fun _=>?_,hK _ ?_⟩;exact cH.out _ _;clear hK K;refine Qt.step (fun K hK=>?_);go_simp;refine hK _ ?_;clear hK K;refine Qt.nil ?_;intro w6 hw';obtain⟨⟨dq,osq⟩,hw''⟩:=hw';have hb6:Below wr.heap.size wr w6:=(by rw[hw''];exact below_regrown _ _ _);have B6:=hbel.trans (hb6.mono hbel.size);clear hw'' a0 cN cH hb6;go_wp2;go_roundw
     case rel=>exact⟨k1+1,by omega,by go_num,HO3,B6⟩
     case measure=>simp[intOf];omega
  ·have e:k1=l.length:=by omega
   subst e;have HE:Hid (decide ((l.length:Int)<=4)=R):=by
    show _=_
    by_cases h:l.length<=4
    ·rw[decide_eq_true (by omega),HR0.out.2 ⟨fun j hj=>Ho.out j hj hj,h⟩]
    ·rw[decide_eq_false (by omega)]
     cases R with
     | false=>rfl
     | true=>exact absurd (HR0.out.1 rfl).2 h
   clear Ho HR0 HH HSZ;go_wp2;go_ret;exact⟨ret_tb HE.out,hbel⟩
theorem specProgOk_any (p:Pg) (B:Nat->Prop) (x y:Value) (w:World) (hx:Ul w B p.r x) (hy:Fl w B p.f y) (hs:ShPg p) :
  Calls Tryz.prog 38 #[pgV x y] w fun e w'=>e=.returned (.bool (progB p))/\Below w.heap.size w w':=by
 have HR0:Hid (progB p=true↔(∀ r∈p.r,ruleB r=true)/\(∀ i (h:i<p.f.length),FnP p.f i h)/\p.r.length<=10/\p.f.length<=6):=progB_iff;obtain⟨R,hR⟩:∃ R,progB p=R:=⟨_,rfl⟩;rw[hR] at HR0 |-;clear hR;have HFA:=Hid.mk (fun(w':World) (hw:Below w.heap.size w w') (s:ByteArray)=>l10Fn_any p B x y s w' (by obtain⟨a,c,e,-⟩:=hx.len;exact⟨a,_,c,e⟩) (hy.grow hw));have HS:=Hid.mk hs;clear hs;obtain⟨xo,xc,rfl,hx1,hx2,-⟩:=hx.len;obtain⟨yo,yc,rfl,hy1,hy2,-⟩:=hy.len;have hm1:xc<=9223372036854775807:=by unfold maxLen at hx2;omega
 have hm2:yc<=9223372036854775807:=by unfold maxLen at hy2;omega
 have H1:=Hid.mk hx;have H2:=Hid.mk hy;have HSR:Hid (∀ r∈p.r,ShRu r):=HS.out.1;have HSF:Hid (∀ f∈p.f,ShFu f):=HS.out.2;clear hx hy hx2 hy2 HS;obtain⟨ra,hra⟩:∃ q,p.r=q:=⟨_,rfl⟩;obtain⟨fa,hfa⟩:∃ q,p.f=q:=⟨_,rfl⟩;rw[hra] at H1 HSR hx1 HFA HR0;rw[hfa] at H2 HSF hy1 HFA HR0;rw[hra,hfa];clear hra hfa;have B0:Below w.heap.size w (w.alloc (.cells #[.slice xo ra.length xc,.slice yo fa.length yc] 27)):=(Below.refl _ _).alloc (Nat.le_refl _) _;have B01:Below (w.heap.size+1) (w.alloc (.cells #[.slice xo ra.length xc,.slice yo fa.length yc] 27)) (w.alloc (.cells #[.slice xo ra.length xc,.slice yo fa.length yc] 27)):=Below.refl _ _;go_enter Tryz.func38,Tryz.ntmps38
 go_wp2;go_loopw [3] (fun i wr=>∃ (k1:Nat),k1<=ra.length/\i=.int .i64 k1/\Hid (∀ j (hj:j<ra.length),j<k1->ruleB ra[j]=true)/\Below (w.heap.size+1) (w.alloc (.cells #[.slice xo ra.length xc,.slice yo fa.length yc] 27)) wr) (fun i _=>ra.length-(intOf i).toNat)
 case atStart=>exact⟨0,Nat.zero_le _,rfl,fun j _ hj=>absurd hj (Nat.not_lt_zero j),B01⟩
 case round =>
  obtain⟨k1,hk,rfl,Ho,hbel⟩:=hrel;have hc1:=fun o=>hbel.cell (p:=⟨w.heap.size,o,none⟩) (by simp);have hbw:=B0.trans (hbel.mono (by omega));have hs1:=hbel.size;simp at hs1;by_cases hkl:k1<ra.length
  ·have hi1:(k1:Int)<(ra.length:Int):=by omega
   obtain⟨b,off,X,Y,rfl,hel⟩:=H1.out.elems (by intro hn;rw[hn] at hkl;simp at hkl);obtain⟨h3,hx,hy,-⟩:=hel k1 hkl;have hall:ShRu ra[k1]:=HSR.out _ (List.getElem_mem hkl);have HNO:Hid (ruleB ra[k1]=false->R=false):=by
    intro hf;cases R with
    | false=>rfl
    | true=>have:=(HR0.out.1 rfl).1 _ (List.getElem_mem hkl);rw[hf] at this;cases this
   have HO2:Hid (ruleB ra[k1]=true->∀ j (hj:j<ra.length),j<k1+1->ruleB ra[j]=true):=by
    intro hne j hj hj1;by_cases hj2:j<k1
    ·exact Ho.out j hj hj2
    ·obtain rfl:j=k1:=by omega
     exact hne
   obtain⟨t,ht⟩:∃ t,ra[k1]=t:=⟨_,rfl⟩;rw[ht] at h3 hx hy HNO HO2 hall;clear ht hel;obtain⟨c0,c1,c2,c3,c4,c5⟩:=h3.kept (w':=wr) (hbw.block b (World.block_lt_of_cell? w _ h3.1));have cA:=Hid.mk (l10Rule_any t B (X k1) (Y k1) wr (hx.grow hbw) (hy.grow hbw) hall);obtain⟨ok,hok⟩:∃ ok,ruleB t=ok:=⟨_,rfl⟩;rw[hok] at cA HNO HO2;clear hx hy h3 hok hall;cases ok with
   | false =>
    have HG:=Hid.mk (HNO.out rfl);clear HNO HO2 Ho HR0 H1 H2 HSR HSF HFA;go_wp2_with fail
    refine cA.out.mono ?_;rintro e w2 ⟨rfl,hb2⟩;have B3:=hbw.trans (hb2.mono hbw.size);clear hb2 cA;go_wp2;go_ret;exact⟨ret_tb HG.out.symm,B3⟩
   | true =>
    have HO3:=Hid.mk (HO2.out rfl);clear HNO HO2 Ho;go_wp2_with fail
    refine cA.out.mono ?_;rintro e w2 ⟨rfl,hb2⟩;have B3:=hbel.trans (hb2.mono (by omega));clear hb2 cA;go_wp2;go_roundw
    case rel=>exact⟨k1+1,by omega,by go_num,HO3,B3⟩
    case measure=>simp[intOf];omega
  ·have e:k1=ra.length:=by omega
   subst e;have HRR:Hid (∀ r∈ra,ruleB r=true):=by
    intro r hr;obtain⟨j,hj,rfl⟩:=List.getElem_of_mem hr;exact Ho.out j hj hj
   have HR1:Hid (R=true↔(∀ i (h:i<fa.length),FnP fa i h)/\ra.length<=10/\fa.length<=6):=by
    show _↔_
    rw[HR0.out];exact⟨fun h=>h.2,fun h=>⟨HRR.out,h⟩⟩
   clear Ho HR0 HRR H1 HSR hkl hk;go_wp2;go_loopw [4] (fun i wr=>∃ (k1:Nat),k1<=fa.length/\i=.int .i64 k1/\Hid (∀ j (hj:j<fa.length),j<k1->FnP fa j hj)/\Below (w.heap.size+1) (w.alloc (.cells #[.slice xo ra.length xc,.slice yo fa.length yc] 27)) wr) (fun i _=>fa.length-(intOf i).toNat)
   case atStart=>exact⟨0,Nat.zero_le _,rfl,fun j _ hj=>absurd hj (Nat.not_lt_zero j),hbel⟩
   case round =>
    clear hc1 hbw hs1 hbel;obtain⟨k1,hk,rfl,Ho,hbel⟩:=hrel;have hc1:=fun o=>hbel.cell (p:=⟨w.heap.size,o,none⟩) (by simp);have hbw:=B0.trans (hbel.mono (by omega));have hs1:=hbel.size;simp at hs1;by_cases hkl:k1<fa.length
    ·have hi1:(k1:Int)<(fa.length:Int):=by omega
     obtain⟨b,off,X,Y,rfl,hel⟩:=H2.out.elems (by intro hn;rw[hn] at hkl;simp at hkl);obtain⟨h3,hx,hy,hss⟩:=hel k1 hkl;have hall:ShFu fa[k1]:=HSF.out _ (List.getElem_mem hkl);have HNO:Hid (¬ FnP fa k1 hkl->R=false):=by
      intro hf;cases R with
      | false=>rfl
      | true=>exact absurd ((HR1.out.1 rfl).1 k1 hkl) hf
     have HO2:Hid (FnP fa k1 hkl->∀ j (hj:j<fa.length),j<k1+1->FnP fa j hj):=by
      intro hne j hj hj1;by_cases hj2:j<k1
      ·exact Ho.out j hj hj2
      ·obtain rfl:j=k1:=by omega
       exact hne
     have HP:Hid (FnP fa k1 hkl↔nmB fa[k1].n=true/\(∀ j (hj:j<k1),(fa[j].n.toList==fa[k1].n.toList)=false)/\paramsB fa[k1].ps=true/\bodyB fa[k1].a=true):=Iff.rfl;have HM:Hid (∀ m,FnAt fa fa[k1].n m->(m=k1↔∀ j (hj:j<k1),(fa[j].n.toList==fa[k1].n.toList)=false)):=by
      intro m hm;rcases hm with⟨rfl,hn⟩ | ⟨i,hi,rfl,he,hn⟩
      ·have:=hn k1 hkl;simp at this
      ·constructor
       ·intro h j hj
        exact hn j (by omega)
       ·intro h
        rcases Nat.lt_trichotomy i k1 with hlt | rfl | hgt
        ·have:=h i hlt;rw[he] at this;cases this
        ·rfl
        ·have:=hn k1 hgt;simp at this
     obtain⟨Q,hQ⟩:∃ Q:Prop,(∀ j (hj:j<k1),(fa[j].n.toList==fa[k1].n.toList)=false)=Q:=⟨_,rfl⟩;rw[hQ] at HP HM;clear hQ;obtain⟨P,hP⟩:∃ P:Prop,FnP fa k1 hkl=P:=⟨_,rfl⟩;rw[hP] at HNO HO2 HP;clear hP;obtain⟨t,ht⟩:∃ t,fa[k1]=t:=⟨_,rfl⟩;rw[ht] at h3 hx hy hss HP HM hall;clear ht hel;obtain⟨c0,c1,c2⟩:=h3.kept (w':=wr) (hbw.block b (World.block_lt_of_cell? w _ h3.1));have hblt:b<wr.heap.size:=World.block_lt_of_cell? wr _ c0;obtain⟨po,pc,ep,-,-,-⟩:=hx.len;obtain⟨so,sc,es,-,-,-⟩:=hy.len;have A1:Hid (Below w.heap.size w (wr.alloc (.cells #[.string t.n,X k1,Y k1] 71))):=hbw.alloc (by omega) _;have D1:Hid (Below (w.heap.size+1) (w.alloc (.cells #[.slice xo ra.length xc,.slice (some ⟨b,off,none⟩) fa.length yc] 27)) (wr.alloc (.cells #[.string t.n,X k1,Y k1] 71))):=hbel.alloc hs1 _;have cN:=Hid.mk (fun(w':World)=>specNameOk_any t.n w' hss);have cF:=Hid.mk (fun(w':World) (hw:Below w.heap.size w w')=>HFA.out w' hw t.n);have cP:=Hid.mk (fun(w':World) (hw:Below w.heap.size w w')=>l10Params_any t.ps B (X k1) w' (hx.grow hw));have cB:=Hid.mk (fun(w':World) (hw:Below w.heap.size w w')=>l10Body_any t.a B (Y k1) w' (hy.grow hw) hall);rw[ep] at c1 cP A1 D1;rw[es] at c2 cB A1 D1;clear hx hy h3 ep es hss hall;generalize nmB t.n=nb at cN HP;generalize paramsB t.ps=pb at cP HP;generalize bodyB t.a=bb at cB HP;generalize t.n=n at c0 cN cF HM A1 D1;generalize t.ps.length=pl at c1 cP A1 D1;generalize t.a.length=al at c2 cB A1 D1;have hne1:w.heap.size≠wr.heap.size:=(by omega);have hne2:w.heap.size<wr.heap.size:=(by omega);have HC:Hid (∀ w',Below (wr.heap.size+1) (wr.alloc (.cells #[.string n,.slice po pl pc,.slice so al sc] 71)) w'->(∀ o,w'.cell? ⟨w.heap.size,o,none⟩=(w.alloc (.cells #[.slice xo ra.length xc,.slice (some ⟨b,off,none⟩) fa.length yc] 27)).cell? ⟨w.heap.size,o,none⟩)/\∀ o,w'.cell? ⟨wr.heap.size,o,none⟩=(wr.alloc (.cells #[.string n,.slice po pl pc,.slice so al sc] 71)).cell? ⟨wr.heap.size,o,none⟩):=by
      intro w' hw;refine⟨fun o=>?_,fun o=>hw.cell (p:=⟨wr.heap.size,o,none⟩) (by simp)⟩;rw[hw.cell (p:=⟨w.heap.size,o,none⟩) (by show w.heap.size<_;omega)];exact D1.out.cell (p:=⟨w.heap.size,o,none⟩) (by simp)
     clear hbel hbw;cases nb with
     | false =>
      have HG:Hid (R=false):=HNO.out fun p=>by cases (HP.out.1 p).1
      clear HNO HO2 HP HM Ho HR1 H2 HSF HFA;go_wp2_with fail
      refine(cN.out _).mono ?_;rintro e w1 ⟨rfl,hbw1⟩;have Ew1:Hid (Below (wr.heap.size+1) (wr.alloc (.cells #[.string n,.slice po pl pc,.slice so al sc] 71)) w1):=hbw1.mono (by simp);have Aw1:=Hid.mk (A1.out.trans (hbw1.mono (by simp;omega)));obtain⟨xw1,yw1⟩:=HC.out w1 Ew1.out;clear hbw1;go_wp2;go_ret;exact⟨ret_tb HG.out.symm,Aw1.out⟩
     | true =>
      go_wp2_with fail
      refine(cN.out _).mono ?_;rintro e w1 ⟨rfl,hbw1⟩;have Ew1:Hid (Below (wr.heap.size+1) (wr.alloc (.cells #[.string n,.slice po pl pc,.slice so al sc] 71)) w1):=hbw1.mono (by simp);have Aw1:=Hid.mk (A1.out.trans (hbw1.mono (by simp;omega)));obtain⟨xw1,yw1⟩:=HC.out w1 Ew1.out;clear hbw1;go_wp2_with fail
      refine(cF.out _ Aw1.out).mono ?_;rintro e w2 ⟨m,rfl,hm,hbw2⟩;have Ew2:Hid (Below (wr.heap.size+1) (wr.alloc (.cells #[.string n,.slice po pl pc,.slice so al sc] 71)) w2):=Ew1.out.trans (hbw2.mono (by have:=Ew1.out.size;simpa using this));have Aw2:=Hid.mk (Aw1.out.trans (hbw2.mono Aw1.out.size));obtain⟨xw2,yw2⟩:=HC.out w2 Ew2.out;clear hbw2;by_cases hmk:m=(k1:Int)
      case neg =>
       have hb:((m:Int) != (k1:Int))=true:=(by rw[bne_iff_ne];exact hmk);have hb2:((m:Int)==(k1:Int))=false:=(by rw[beq_eq_false_iff_ne];exact hmk);have HG:Hid (R=false):=HNO.out fun p=>hmk ((HM.out m hm).2 (HP.out.1 p).2.1);clear HNO HO2 HP HM Ho HR1 H2 HSF HFA;clear hm hmk;go_wp2;go_ret;exact⟨ret_tb HG.out.symm,Aw2.out⟩
      have hb:((m:Int) != (k1:Int))=false:=(by rw[hmk];simp);have hb2:((m:Int)==(k1:Int))=true:=(by rw[hmk];simp);cases pb with
      | false =>
       have HG:Hid (R=false):=HNO.out fun p=>by cases (HP.out.1 p).2.2.1
       clear HNO HO2 HP HM Ho HR1 H2 HSF HFA;go_wp2_with fail
       refine(cP.out _ Aw2.out).mono ?_;rintro e w3 ⟨rfl,hbw3⟩;have Ew3:Hid (Below (wr.heap.size+1) (wr.alloc (.cells #[.string n,.slice po pl pc,.slice so al sc] 71)) w3):=Ew2.out.trans (hbw3.mono (by have:=Ew2.out.size;simpa using this));have Aw3:=Hid.mk (Aw2.out.trans (hbw3.mono Aw2.out.size));obtain⟨xw3,yw3⟩:=HC.out w3 Ew3.out;clear hbw3;go_wp2;go_ret;exact⟨ret_tb HG.out.symm,Aw3.out⟩
      | true =>
       cases bb with
       | false =>
        have HG:Hid (R=false):=HNO.out fun p=>by cases (HP.out.1 p).2.2.2
        clear HNO HO2 HP HM Ho HR1 H2 HSF HFA;go_wp2_with fail
        refine(cP.out _ Aw2.out).mono ?_;rintro e w3 ⟨rfl,hbw3⟩;have Ew3:Hid (Below (wr.heap.size+1) (wr.alloc (.cells #[.string n,.slice po pl pc,.slice so al sc] 71)) w3):=Ew2.out.trans (hbw3.mono (by have:=Ew2.out.size;simpa using this));have Aw3:=Hid.mk (Aw2.out.trans (hbw3.mono Aw2.out.size));obtain⟨xw3,yw3⟩:=HC.out w3 Ew3.out;clear hbw3;go_wp2_with fail
        refine(cB.out _ Aw3.out).mono ?_;rintro e w4 ⟨rfl,hbw4⟩;have Ew4:Hid (Below (wr.heap.size+1) (wr.alloc (.cells #[.string n,.slice po pl pc,.slice so al sc] 71)) w4):=Ew3.out.trans (hbw4.mono (by have:=Ew3.out.size;simpa using this));have Aw4:=Hid.mk (Aw3.out.trans (hbw4.mono Aw3.out.size));obtain⟨xw4,yw4⟩:=HC.out w4 Ew4.out;clear hbw4;go_wp2;go_ret;exact⟨ret_tb HG.out.symm,Aw4.out⟩
       | true =>
        have HO3:=Hid.mk (HO2.out (HP.out.2 ⟨by first | rfl | trivial,(HM.out m hm).1 hmk,by first | rfl | trivial,by first | rfl | trivial⟩));clear HNO HO2 HP HM Ho hm hmk;go_wp2_with fail
        refine(cP.out _ Aw2.out).mono ?_;rintro e w3 ⟨rfl,hbw3⟩;have Ew3:Hid (Below (wr.heap.size+1) (wr.alloc (.cells #[.string n,.slice po pl pc,.slice so al sc] 71)) w3):=Ew2.out.trans (hbw3.mono (by have:=Ew2.out.size;simpa using this));have Aw3:=Hid.mk (Aw2.out.trans (hbw3.mono Aw2.out.size));obtain⟨xw3,yw3⟩:=HC.out w3 Ew3.out;clear hbw3;go_wp2_with fail
        refine(cB.out _ Aw3.out).mono ?_;rintro e w4 ⟨rfl,hbw4⟩;have Ew4:Hid (Below (wr.heap.size+1) (wr.alloc (.cells #[.string n,.slice po pl pc,.slice so al sc] 71)) w4):=Ew3.out.trans (hbw4.mono (by have:=Ew3.out.size;simpa using this));have Aw4:=Hid.mk (Aw3.out.trans (hbw4.mono Aw3.out.size));obtain⟨xw4,yw4⟩:=HC.out w4 Ew4.out;clear hbw4;have D4:=D1.out.trans (Ew4.out.mono (by omega));go_wp2;go_roundw
        case rel=>exact⟨k1+1,by omega,by go_num,HO3,D4⟩
        case measure=>simp[intOf];omega
    ·have e:k1=fa.length:=by omega
     subst e;have HG:Hid (R=(decide ((ra.length:Int)<=10)&&decide ((fa.length:Int)<=6))):=by
      show _=_
      rw[Bool.eq_iff_iff,HR1.out];simp only[Bool.and_eq_true,decide_eq_true_eq];constructor
      ·intro h;omega
      ·intro h;exact⟨fun j hj=>Ho.out j hj hj,by omega,by omega⟩
     clear Ho HR1 H2 HSF HFA;by_cases h10:(ra.length:Int)<=10
     ·rw[decide_eq_true h10,Bool.true_and] at HG
      go_wp2;go_ret;exact⟨ret_tb HG.out.symm,hbw⟩
     ·rw[decide_eq_false h10,Bool.false_and] at HG
      go_wp2;go_ret;exact⟨ret_tb HG.out.symm,hbw⟩
end Go.Proofs.YtkbijjkgfojchaaGreat
