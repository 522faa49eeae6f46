/- How much room a term leaves: the program's roomLeft over terms,its ExprOk. .. -/
import Derived.Test.YtkbijjkgfojchaaGreatQRun24
import Derived.Test.YtkbijjkgfojchaaGreatQStHereS
namespace Go.Proofs.YtkbijjkgfojchaaGreat
set_option maxHeartbeats 2000000
open Go.RowKit
set_option maxRecDepth 8000
def RoomX (f:Nat):Prop:=∀ (t:Ex) (B:Nat->Prop) (v:Value) (w:World) (r:Int),El w B t.l v->(∀ x,InX x t->x.s.size<=1048576)->0<=r->r<=100 ->
 Calls Tryz.prog 115 #[xx t.k t.n t.s v,.int .i64 (f:Int),.int .i64 r,.func (.func 116) #[] #[],.func (.func 117) #[] #[]] w fun e w'=>e=.returned (.int .i64 (roomX f t r))/\Below w.heap.size w w'
theorem exprParts_any (k n:Int) (s:ByteArray) (v:Value) (w:World) (hv:∃ ao L cap,v=.slice ao L cap) :
  Calls Tryz.prog 117 #[xx k n s v] w fun e w'=>e=.returned v/\Below w.heap.size w w':=by
 obtain⟨ao,L,cap,rfl⟩:=hv;go_enter Tryz.func117,Tryz.ntmps117
 go_wp2;go_ret;exact⟨rfl,(Below.refl _ _).alloc (Nat.le_refl _) _⟩
theorem roomX_zero:RoomX 0:=by
 intro t B v w r h hs h0 h1;obtain⟨ao,cap,rfl,hl1,hl2,hl3⟩:=h.len;obtain⟨k,hk⟩:∃ k,t.k=k:=⟨_,rfl⟩;obtain⟨n,hnn⟩:∃ n,t.n=n:=⟨_,rfl⟩;obtain⟨s,hsn⟩:∃ s,t.s=s:=⟨_,rfl⟩;have HR:Hid (roomX 0 t r = -1):=rfl;rw[hk,hnn,hsn];clear h;go_enter Tryz.func115,Tryz.ntmps115
 go_wp2;go_ret;exact⟨ret_i HR.out.symm,(Below.refl _ _).alloc (Nat.le_refl _) _⟩
theorem roomX_succ (f:Nat) (hf:f<=9) (ih:RoomX f):RoomX (f+1):=by
 intro t B v w r h hs h0 h1;obtain⟨ao0,cap0,hv0,-,-,-⟩:=h.len;have HNB:=Hid.mk (fun(w':World)=>exprNodeOk_any t.k t.n t.s ao0 t.l.length cap0 w' (hs t (.self t)));have HSUB:=Hid.mk (fun i (hi:i<t.l.length) x hx=>hs x (InX.sub (List.getElem_mem hi) hx));rw[<- nodeX_eq,<- hv0] at HNB;clear hv0;have HE:Hid (roomX (f+1) t r=if r=0\/nodeX t=false then -1 else t.l.foldl (roomXG (roomX f)) (r-1)):=rfl;obtain⟨R,hR⟩:∃ R,roomX (f+1) t r=R:=⟨_,rfl⟩;obtain⟨nb,hnb⟩:∃ nb,nodeX t=nb:=⟨_,rfl⟩;obtain⟨k,hk⟩:∃ k,t.k=k:=⟨_,rfl⟩;obtain⟨n,hnn⟩:∃ n,t.n=n:=⟨_,rfl⟩;obtain⟨s,hsn⟩:∃ s,t.s=s:=⟨_,rfl⟩;obtain⟨l,hln⟩:∃ l,t.l=l:=⟨_,rfl⟩;rw[hk,hnn,hsn,hnb] at HNB;rw[hR,hnb,hln] at HE;rw[hln] at h HSUB;rw[hk,hnn,hsn,hR];clear hR hnb hk hnn hsn hln hs;obtain⟨ao,cap,rfl,hl1,hl2,hl3⟩:=h.len;have hm:cap<=9223372036854775807:=by unfold maxLen at hl2;omega
 have HH:=Hid.mk h;have HI:=Hid.mk ih;clear ih h hl2;have B0:Below w.heap.size w (w.alloc (.cells #[.int .i64 k,.int .i64 n,.string s,.slice ao l.length cap] 54)):=(Below.refl _ _).alloc (Nat.le_refl _) _;obtain⟨d,hd⟩:∃ d:Int,((f+1:Nat):Int)=d:=⟨_,rfl⟩;rw[hd];have hd6:(d==0)=false:=beq_eq_false_iff_ne.2 (by omega);have hd7:d-1=(f:Int):=by omega
 have hd8:0<=d:=by omega
 have hd9:d<=10:=by omega
 have HPT:=Hid.mk (fun w'=>exprParts_any k n s (.slice ao l.length cap) w' ⟨_,_,_,rfl⟩);by_cases hr0:r=0
 ·subst hr0
  have HR:Hid (R = -1):=(by show _=_;rw[HE.out,if_pos (Or.inl rfl)]);clear HE HNB HI HH;go_enter Tryz.func115,Tryz.ntmps115
  go_wp2;go_ret;exact⟨ret_i HR.out.symm,B0⟩
 have hrb:(r==0)=false:=beq_eq_false_iff_ne.2 hr0;cases nb with
 | false =>
  have HR:Hid (R = -1):=(by show _=_;rw[HE.out,if_pos (Or.inr rfl)]);clear HE HI HH;go_enter Tryz.func115,Tryz.ntmps115
  go_wp2_with fail
  refine(HNB.out _).mono ?_;rintro e w1 ⟨rfl,hb1⟩;have B1:=B0.trans (hb1.mono (by simp));clear B0 hb1 HNB;go_wp2;go_ret;exact⟨ret_i HR.out.symm,B1⟩
 | true =>
  have HR:Hid (R=l.foldl (roomXG (roomX f)) (r-1)):=(by show _=_;rw[HE.out,if_neg (by simpa using hr0)]);clear HE;go_enter Tryz.func115,Tryz.ntmps115
  go_wp2_with fail
  refine(HNB.out _).mono ?_;rintro e w1 ⟨rfl,hb1⟩;have B1:=B0.trans (hb1.mono (by simp));have hc1:=fun o=>hb1.cell (p:=⟨w.heap.size,o,none⟩) (by simp);have hs1:=hb1.size;simp at hs1;clear B0 hb1 HNB;have hr1:0<=r-1:=(by omega);go_wp2_with fail
  refine(HPT.out _).mono ?_;rintro e w2 ⟨rfl,hb2⟩;have B2:=B1.trans (hb2.mono B1.size);clear B1 hb2 hc1 HPT;go_wp2;go_loopw [2,31] (fun q i wr=>∃ (k:Nat) (m:Int),k<=l.length/\i=.int .i64 k/\q=.int .i64 m/\0<=m/\m<=100/\Hid (m=(l.take k).foldl (roomXG (roomX f)) (r-1))/\Below w.heap.size w wr) (fun _ i _=>l.length-(intOf i).toNat)
  case atStart=>exact⟨0,r-1,Nat.zero_le _,rfl,rfl,by omega,by omega,rfl,B2⟩
  case round =>
   obtain⟨k,m,hk,rfl,rfl,m0,m1,Hm,hbel⟩:=hrel;clear B2;by_cases hkl:k<l.length
   ·obtain⟨b,off,V,rfl,hel⟩:=HH.out.elems (by intro hn;rw[hn] at hkl;simp at hkl)
    obtain⟨h3,hsub,hss⟩:=hel k hkl;have HT:=Hid.mk (roomX_take (f:=f) l k (r-1) hkl);have HC:=Hid.mk (roomX_cut (f:=f) l (k+1) (r-1));have hall:=HSUB.out k hkl;obtain⟨t,ht⟩:∃ t,l[k]=t:=⟨_,rfl⟩;rw[ht] at h3 hsub hss HT hall;clear ht hel;obtain⟨c0,cn,c1,c2⟩:=h3.kept (w':=wr) (hbel.block b (World.block_lt_of_cell? w _ h3.1));have hs1:=hbel.size;have HCall:=Hid.mk (fun(w':World) (hb:Below w.heap.size w w')=>HI.out t B (V k) w' m (hsub.grow hb) hall m0 m1);obtain⟨bd0,bd1⟩:=roomX_bd f t m m0;obtain⟨av,cv,hv,-,-,-⟩:=hsub.len;rw[hv] at c2 HCall;obtain⟨tk,htk⟩:∃ tk,t.k=tk:=⟨_,rfl⟩;obtain⟨tn,htn⟩:∃ tn,t.n=tn:=⟨_,rfl⟩;obtain⟨ts,hts⟩:∃ ts,t.s=ts:=⟨_,rfl⟩;rw[htk,htn,hts] at HCall;rw[htk] at c0;rw[htn] at cn;rw[hts] at c1;obtain⟨q,hq⟩:∃ q,roomX f t m=q:=⟨_,rfl⟩;rw[hq] at bd0 bd1 HCall;have HQ:Hid ((l.take (k+1)).foldl (roomXG (roomX f)) (r-1)=q):=by
     show _=_
     rw[HT.out,<- Hm.out,roomXG,if_neg (by omega),hq]
    have hi1:(k:Int)<(l.length:Int):=(by omega);have B2:=hbel.alloc hs1 (.cells #[.int .i64 tk,.int .i64 tn,.string ts,.slice av t.l.length cv] 54);clear hsub hss h3 hv HT Hm hq htk htn hts hbel hall;by_cases hq0:q<0
    ·have HF:Hid (R = -1):=by show _=_;rw[HR.out];exact HC.out (by rw[HQ.out];omega)
     clear HQ HC;go_wp2_with fail
     refine(HCall.out _ B2).mono ?_;rintro e w2 ⟨rfl,hb2⟩;have B3:=B2.trans (hb2.mono (by simp;omega));clear B2 hb2 HCall;go_wp2;go_ret;exact⟨ret_i HF.out.symm,B3⟩
    ·clear HC
     go_wp2_with fail
     refine(HCall.out _ B2).mono ?_;rintro e w2 ⟨rfl,hb2⟩;have B3:=B2.trans (hb2.mono (by simp;omega));clear B2 hb2 HCall;go_wp2;go_roundw
     case rel=>exact⟨k+1,q,by omega,by go_num,rfl,by omega,by omega,HQ.out.symm,B3⟩
     case measure=>simp[intOf];omega
   ·have e:k=l.length:=by omega
    subst e;have HF:Hid (R=m):=(by show _=_;rw[HR.out,Hm.out,List.take_length]);clear Hm;go_wp2;go_ret;exact⟨ret_i HF.out.symm,hbel⟩
theorem implExprOk_any (t:Ex) (B:Nat->Prop) (v:Value) (w:World) (h:El w B t.l v) (hs:∀ x,InX x t->x.s.size<=1048576) :
  Calls Tryz.prog 77 #[xx t.k t.n t.s v] w fun e w'=>e=.returned (.bool (okE t))/\Below w.heap.size w w':=by
 have R6:RoomX 10:=roomX_succ 9 (by omega) (roomX_succ 8 (by omega) (roomX_succ 7 (by omega) (roomX_succ 6 (by omega) (roomX_succ 5 (by omega) (roomX_succ 4 (by omega) (roomX_succ 3 (by omega) (roomX_succ 2 (by omega) (roomX_succ 1 (by omega) (roomX_succ 0 (by omega) roomX_zero)))))))));have HC:=Hid.mk (fun(w':World) (hb:Below w.heap.size w w')=>R6 t B v w' 100 (h.grow hb) hs (by omega) (by omega));have HO:=Hid.mk (okE_room t);obtain⟨b,hb⟩:∃ b,okE t=b:=⟨_,rfl⟩;obtain⟨q,hq⟩:∃ q,roomX 10 t 100=q:=⟨_,rfl⟩;obtain⟨k,hk⟩:∃ k,t.k=k:=⟨_,rfl⟩;obtain⟨n,hnn⟩:∃ n,t.n=n:=⟨_,rfl⟩;obtain⟨s,hsn⟩:∃ s,t.s=s:=⟨_,rfl⟩;rw[hk,hnn,hsn,hq] at HC;rw[hb,hq] at HO;rw[hk,hnn,hsn,hb];obtain⟨ao,cap,rfl,hl1,hl2,hl3⟩:=h.len;have B0:Below w.heap.size w (w.alloc (.cells #[.int .i64 k,.int .i64 n,.string s,.slice ao t.l.length cap] 54)):=(Below.refl _ _).alloc (Nat.le_refl _) _;clear h hk hnn hsn hq hb R6 hl2;go_enter Tryz.func77,Tryz.ntmps77
 go_wp2_with fail
 refine(HC.out _ B0).mono ?_;rintro e w1 ⟨rfl,hb1⟩;have B1:=B0.trans (hb1.mono (by simp));clear B0 hb1 HC;go_wp2;go_ret;exact⟨ret_b HO.out,B1⟩
theorem okXL_no {l:List Ex} {k:Nat} (h:k<l.length) (hk:l[k].okT=false):okXL l=false:=by
 cases hb:okXL l with
 | false=>rfl
 | true=>have:=(okXL_iff l).1 hb _ (List.getElem_mem h);rw[hk] at this;cases this
theorem okXL_yes {l:List Ex} (h:∀ j (hj:j<l.length),l[j].okT=true):okXL l=true:=by
 rw[okXL_iff];intro x hx;obtain⟨j,hj,rfl⟩:=List.getElem_of_mem hx;exact h j hj
def ShX (t:Ex):Prop:=∀ x,InX x t->x.s.size<=1048576
def OkX (t:Ex):Prop:=∀ (B:Nat->Prop) (v:Value) (w:World),El w B t.l v->ShX t ->
 Calls Tryz.prog 146 #[xx t.k t.n t.s v] w fun e w'=>e=.returned (.bool t.okT)/\Below w.heap.size w w'
theorem okX_step (t:Ex) (ih:∀ x∈t.l,OkX x):OkX t:=by
 intro B v w h hs;have HT:=Hid.mk (okX_eq t);have HI:=Hid.mk ih;have HSUB:=Hid.mk (fun i (hi:i<t.l.length) x hx=>hs x (InX.sub (List.getElem_mem hi) hx));obtain⟨ao,cap,hv,hl1,hl2,hl3⟩:=h.len;have HN:=Hid.mk (fun w'=>l8Here_any t.k t.n t.s ao t.l.length cap w' (hs t (.self t)));rw[<- nodeX_eq] at HN;subst hv;obtain⟨R,hR⟩:∃ R,t.okT=R:=⟨_,rfl⟩;obtain⟨nb,hnb⟩:∃ nb,nodeX t=nb:=⟨_,rfl⟩;obtain⟨k,hk⟩:∃ k,t.k=k:=⟨_,rfl⟩;obtain⟨n,hnn⟩:∃ n,t.n=n:=⟨_,rfl⟩;obtain⟨s,hsn⟩:∃ s,t.s=s:=⟨_,rfl⟩;obtain⟨l,hln⟩:∃ l,t.l=l:=⟨_,rfl⟩;rw[hk,hnn,hsn,hln,hR];rw[hR,hnb,hln] at HT;rw[hk,hnn,hsn,hln,hnb] at HN;rw[hln] at HI h hl1 HSUB;clear hk hnn hsn hln hnb hR ih hs;have hm:cap<=9223372036854775807:=by unfold maxLen at hl2;omega
 have HH:=Hid.mk h;clear h hl2;have B0:Below w.heap.size w (w.alloc (.cells #[.int .i64 k,.int .i64 n,.string s,.slice ao l.length cap] 54)):=(Below.refl _ _).alloc (Nat.le_refl _) _;have B01:Below (w.heap.size+1) (w.alloc (.cells #[.int .i64 k,.int .i64 n,.string s,.slice ao l.length cap] 54)) (w.alloc (.cells #[.int .i64 k,.int .i64 n,.string s,.slice ao l.length cap] 54)):=Below.refl _ _;go_enter Tryz.func146,Tryz.ntmps146
 go_wp2;go_loopw [3] (fun i wr=>∃ (k1:Nat),k1<=l.length/\i=.int .i64 k1/\Hid (∀ j (hj:j<l.length),j<k1->l[j].okT=true)/\Below (w.heap.size+1) (w.alloc (.cells #[.int .i64 k,.int .i64 n,.string s,.slice ao l.length cap] 54)) wr) (fun i _=>l.length-(intOf i).toNat)
 case atStart=>exact⟨0,Nat.zero_le _,rfl,fun j _ hj=>absurd hj (Nat.not_lt_zero j),B01⟩
 case round =>
  obtain⟨k1,hk,rfl,Ho,hbel⟩:=hrel;clear B01;have hc1:=fun o=>hbel.cell (p:=⟨w.heap.size,o,none⟩) (by simp);have hbw:=B0.trans (hbel.mono (by omega));have hs1:=hbel.size;simp at hs1;by_cases hkl:k1<l.length
  ·have hi1:(k1:Int)<(l.length:Int):=by omega
   obtain⟨b,off,V,rfl,hel⟩:=HH.out.elems (by intro hn;rw[hn] at hkl;simp at hkl);obtain⟨h3,hsub,hss⟩:=hel k1 hkl;have hokc:OkX l[k1]:=HI.out _ (List.getElem_mem hkl);have hall:ShX l[k1]:=HSUB.out k1 hkl;have HNO:=Hid.mk (fun h=>okXL_no (l:=l) hkl h);have HO2:Hid (l[k1].okT=true->∀ j (hj:j<l.length),j<k1+1->l[j].okT=true):=by
    intro hne j hj hj1;by_cases hj2:j<k1
    ·exact Ho.out j hj hj2
    ·obtain rfl:j=k1:=by omega
     exact hne
   obtain⟨t',ht⟩:∃ t,l[k1]=t:=⟨_,rfl⟩;rw[ht] at h3 hsub hss hokc HNO HO2 hall;clear ht hel;obtain⟨c0,cn,c1,c2⟩:=h3.kept (w':=wr) (hbw.block b (World.block_lt_of_cell? w _ h3.1));have cA:=Hid.mk (hokc B (V k1) wr (hsub.grow hbw) hall);obtain⟨ok,hok⟩:∃ ok,t'.okT=ok:=⟨_,rfl⟩;obtain⟨tk,htk⟩:∃ tk,t'.k=tk:=⟨_,rfl⟩;obtain⟨tn,htn⟩:∃ tn,t'.n=tn:=⟨_,rfl⟩;obtain⟨ts,hts⟩:∃ ts,t'.s=ts:=⟨_,rfl⟩;obtain⟨av,cv,hv,-,-,-⟩:=hsub.len;rw[hok,htk,htn,hts,hv] at cA;rw[htk] at c0;rw[htn] at cn;rw[hts] at c1;rw[hv] at c2;rw[hok] at HNO HO2;clear hsub hss h3 hokc hok htk htn hts hv hall hbw;cases ok with
   | false =>
    have HR:Hid (false=R):=(by show _=_;rw[HT.out,HNO.out rfl];rfl);clear HNO HO2 HT HI HH HN;go_wp2_with fail
    refine cA.out.mono ?_;rintro e w2 ⟨rfl,hb2⟩;have B3:=B0.trans ((hbel.trans (hb2.mono (by omega))).mono (by omega));clear hbel hb2 cA hc1;go_wp2;go_ret;exact⟨ret_tb HR.out,B3⟩
   | true =>
    have HO3:=Hid.mk (HO2.out rfl);clear HNO HO2;go_wp2_with fail
    refine cA.out.mono ?_;rintro e w2 ⟨rfl,hb2⟩;have B3:=hbel.trans (hb2.mono (by omega));clear hbel hb2 cA hc1;go_wp2;go_roundw
    case rel=>exact⟨k1+1,by omega,by go_num,HO3,B3⟩
    case measure=>simp[intOf];omega
  ·have e:k1=l.length:=by omega
   subst e;have HE:Hid (nb=R):=(by show _=_;rw[HT.out,okXL_yes (fun j hj=>Ho.out j hj hj)];rfl);clear Ho HT HI HH;go_wp2_with fail
   refine(HN.out _).mono ?_;rintro e w2 ⟨rfl,hb2⟩;have B3:=hbw.trans (hb2.mono hbw.size);clear hbel hb2 HN hc1 hbw;go_wp2;go_ret;exact⟨ret_tb HE.out,B3⟩
theorem specOkX_any (t:Ex):OkX t:=Ex.ind (P:=OkX) okX_step t
theorem specExprOk_any (t:Ex) (B:Nat->Prop) (v:Value) (w:World) (h:El w B t.l v) (hs:ShX t) :
  Calls Tryz.prog 105 #[xx t.k t.n t.s v] w fun e w'=>e=.returned (.bool (okE t))/\Below w.heap.size w w':=by
 have R6:PartsX 10:=partsX_succ 9 (by omega) (partsX_succ 8 (by omega) (partsX_succ 7 (by omega) (partsX_succ 6 (by omega) (partsX_succ 5 (by omega) (partsX_succ 4 (by omega) (partsX_succ 3 (by omega) (partsX_succ 2 (by omega) (partsX_succ 1 (by omega) (partsX_succ 0 (by omega) partsX_zero)))))))));have HC:=Hid.mk (fun(w':World) (hb:Below w.heap.size w w')=>R6 t B v w' (h.grow hb));have HK:=Hid.mk (fun(w':World) (hb:Below w.heap.size w w')=>specOkX_any t B v w' (h.grow hb) hs);have HO:Hid (okE t=(decide (partsX 10 t<=100)&&t.okT)):=rfl;obtain⟨b,hb⟩:∃ b,okE t=b:=⟨_,rfl⟩;obtain⟨q,hq⟩:∃ q,partsX 10 t=q:=⟨_,rfl⟩;obtain⟨o,ho⟩:∃ o,t.okT=o:=⟨_,rfl⟩;obtain⟨k,hk⟩:∃ k,t.k=k:=⟨_,rfl⟩;obtain⟨n,hnn⟩:∃ n,t.n=n:=⟨_,rfl⟩;obtain⟨s,hsn⟩:∃ s,t.s=s:=⟨_,rfl⟩;rw[hk,hnn,hsn,hq] at HC;rw[hk,hnn,hsn,ho] at HK;rw[hb,hq,ho] at HO;rw[hk,hnn,hsn,hb];obtain⟨ao,cap,rfl,hl1,hl2,hl3⟩:=h.len;have B0:Below w.heap.size w (w.alloc (.cells #[.int .i64 k,.int .i64 n,.string s,.slice ao t.l.length cap] 54)):=(Below.refl _ _).alloc (Nat.le_refl _) _;clear h hk hnn hsn hq hb ho R6 hl2;by_cases h60:q<=100
 ·have h60':(q:Int)<=100:=by omega
  have HR:Hid (o=b):=(by show _=_;rw[HO.out,decide_eq_true h60];rfl);clear HO;go_enter Tryz.func105,Tryz.ntmps105
  go_wp2_with fail
  refine(HC.out _ B0).mono ?_;rintro e w1 ⟨rfl,hb1⟩;have B1:=B0.trans (hb1.mono (by simp));have hc1:=fun o=>hb1.cell (p:=⟨w.heap.size,o,none⟩) (by simp);have hs1:=hb1.size;simp at hs1;clear B0 hb1 HC;go_wp2_with fail
  refine(HK.out _ B1).mono ?_;rintro e w2 ⟨rfl,hb2⟩;have B2:=B1.trans (hb2.mono (by omega));clear B1 hb2 HK hc1;go_wp2;go_ret;exact⟨ret_b HR.out,B2⟩
 ·have h60':¬ (q:Int)<=100:=by omega
  have HR:Hid (false=b):=(by show _=_;rw[HO.out,decide_eq_false h60];rfl);clear HO HK;go_enter Tryz.func105,Tryz.ntmps105
  go_wp2_with fail
  refine(HC.out _ B0).mono ?_;rintro e w1 ⟨rfl,hb1⟩;have B1:=B0.trans (hb1.mono (by simp));clear B0 hb1 HC;go_wp2;go_ret;exact⟨ret_b HR.out,B1⟩
inductive InY:St->St->Prop
 | self (t:St):InY t t
 | sa {x y t:St} (h:y∈t.a) (hx:InY x y):InY x t
 | sb {x y t:St} (h:y∈t.b) (hx:InY x y):InY x t
def ShY (t:St):Prop:=∀ y,InY y t->y.s.size<=1048576/\y.t.size<=1048576/\∀ e∈y.x,ShX e
def OkYL (l:List St):Prop:=∀ (B:Nat->Prop) (v:Value) (w:World),Sl w B l v->(∀ y∈l,ShY y) ->
 Calls Tryz.prog 174 #[v] w fun e w'=>e=.returned (.bool (okSL l))/\Below w.heap.size w w'
def OkY (t:St):Prop:=∀ (B:Nat->Prop) (vx va vb:Value) (w:World),El w B t.x vx->Sl w B t.a va->Sl w B t.b vb->ShY t ->
 Calls Tryz.prog 150 #[st t.k t.s t.t vx va vb] w fun e w'=>e=.returned (.bool t.okT)/\Below w.heap.size w w'
theorem okSL_no {l:List St} {k:Nat} (h:k<l.length) (hk:l[k].okT=false):okSL l=false:=by
 cases hb:okSL l with
 | false=>rfl
 | true=>have:=(okSL_iff l).1 hb _ (List.getElem_mem h);rw[hk] at this;cases this
theorem okSL_yes {l:List St} (h:∀ j (hj:j<l.length),l[j].okT=true):okSL l=true:=by
 rw[okSL_iff];intro x hx;obtain⟨j,hj,rfl⟩:=List.getElem_of_mem hx;exact h j hj
theorem allE_no {l:List Ex} {k:Nat} (h:k<l.length) (hk:okE l[k]=false):l.all okE=false:=by
 cases hb:l.all okE with
 | false=>rfl
 | true=>have:=List.all_eq_true.1 hb _ (List.getElem_mem h);rw[hk] at this;cases this
theorem allE_yes {l:List Ex} (h:∀ j (hj:j<l.length),okE l[j]=true):l.all okE=true:=by
 rw[List.all_eq_true];intro x hx;obtain⟨j,hj,rfl⟩:=List.getElem_of_mem hx;exact h j hj
theorem okYL_step (l:List St) (ih:∀ x∈l,OkY x):OkYL l:=by
 intro B v w h hs;obtain⟨R,hR⟩:∃ R,okSL l=R:=⟨_,rfl⟩;rw[hR];have HR0:Hid (okSL l=R):=hR;clear hR;obtain⟨ao,cap,rfl,hl1,hl2,hl3⟩:=h.len;have hm:cap<=9223372036854775807:=by unfold maxLen at hl2;omega
 have HI:=Hid.mk ih;have HH:=Hid.mk h;have HS:=Hid.mk hs;clear ih h hs hl2;go_enter Tryz.func174,Tryz.ntmps174
 go_wp2;go_loopw [3] (fun i wr=>∃ (k1:Nat),k1<=l.length/\i=.int .i64 k1/\Hid (∀ j (hj:j<l.length),j<k1->l[j].okT=true)/\Below w.heap.size w wr) (fun i _=>l.length-(intOf i).toNat)
 case atStart=>exact⟨0,Nat.zero_le _,rfl,fun j _ hj=>absurd hj (Nat.not_lt_zero j),Below.refl _ _⟩
 case round =>
  obtain⟨k1,hk,rfl,Ho,hbel⟩:=hrel;by_cases hkl:k1<l.length
  ·have hi1:(k1:Int)<(l.length:Int):=by omega
   obtain⟨b,off,X,Y,Z,rfl,hel⟩:=HH.out.elems (by intro hn;rw[hn] at hkl;simp at hkl);obtain⟨h3,hx,ha,hz,-,-⟩:=hel k1 hkl;have hokc:OkY l[k1]:=HI.out _ (List.getElem_mem hkl);have hall:ShY l[k1]:=HS.out _ (List.getElem_mem hkl);have HNO:=Hid.mk (fun h=>okSL_no (l:=l) hkl h);have HO2:Hid (l[k1].okT=true->∀ j (hj:j<l.length),j<k1+1->l[j].okT=true):=by
    intro hne j hj hj1;by_cases hj2:j<k1
    ·exact Ho.out j hj hj2
    ·obtain rfl:j=k1:=by omega
     exact hne
   obtain⟨t',ht⟩:∃ t,l[k1]=t:=⟨_,rfl⟩;rw[ht] at h3 hx ha hz hokc HNO HO2 hall;clear ht hel;obtain⟨c0,c1,c2,c3,c4,c5⟩:=h3.kept (w':=wr) (hbel.block b (World.block_lt_of_cell? w _ h3.1));have cA:=Hid.mk (hokc B (X k1) (Y k1) (Z k1) wr (hx.grow hbel) (ha.grow hbel) (hz.grow hbel) hall);obtain⟨ok,hok⟩:∃ ok,t'.okT=ok:=⟨_,rfl⟩;obtain⟨tk,htk⟩:∃ tk,t'.k=tk:=⟨_,rfl⟩;obtain⟨ts,hts⟩:∃ ts,t'.s=ts:=⟨_,rfl⟩;obtain⟨tt,htt⟩:∃ tt,t'.t=tt:=⟨_,rfl⟩;obtain⟨xo,xc,hxv,-,-,-⟩:=hx.len;obtain⟨yo,yc,hyv,-,-,-⟩:=ha.len;obtain⟨zo,zc,hzv,-,-,-⟩:=hz.len;rw[hok,htk,hts,htt,hxv,hyv,hzv] at cA;rw[htk] at c0;rw[hts] at c1;rw[htt] at c2;rw[hxv] at c3;rw[hyv] at c4;rw[hzv] at c5;rw[hok] at HNO HO2;clear hx ha hz h3 hokc hok htk hts htt hxv hyv hzv hall;cases ok with
   | false =>
    have HR:Hid (false=R):=(by show _=_;rw[<- HR0.out,HNO.out rfl]);clear HNO HO2 HR0 HI HH HS;go_wp2_with fail
    refine cA.out.mono ?_;rintro e w2 ⟨rfl,hb2⟩;have B3:=hbel.trans (hb2.mono hbel.size);clear hbel hb2 cA;go_wp2;go_ret;exact⟨ret_tb HR.out,B3⟩
   | true =>
    have HO3:=Hid.mk (HO2.out rfl);clear HNO HO2;go_wp2_with fail
    refine cA.out.mono ?_;rintro e w2 ⟨rfl,hb2⟩;have B3:=hbel.trans (hb2.mono hbel.size);clear hbel hb2 cA;go_wp2;go_roundw
    case rel=>exact⟨k1+1,by omega,by go_num,HO3,B3⟩
    case measure=>simp[intOf];omega
  ·have e:k1=l.length:=by omega
   subst e;have HE:Hid (true=R):=(by show _=_;rw[<- HR0.out,okSL_yes (fun j hj=>Ho.out j hj hj)]);clear Ho HR0 HI HH HS;go_wp2;go_ret;exact⟨ret_tb HE.out,hbel⟩
theorem okY_step (t:St) (iha:OkYL t.a) (ihb:OkYL t.b):OkY t:=by
 intro B vx va vb w hx ha hb hs;have HT:=Hid.mk (okT_eq2 t);have HX:=Hid.mk (fun e (he:e∈t.x)=>(hs t (.self t)).2.2 e he);have HA:=Hid.mk (fun(w':World) (hw:Below w.heap.size w w')=>iha B va w' (ha.grow hw) (fun y hy z hz=>hs z (.sa hy hz)));have HB:=Hid.mk (fun(w':World) (hw:Below w.heap.size w w')=>ihb B vb w' (hb.grow hw) (fun y hy z hz=>hs z (.sb hy hz)));obtain⟨xo,xc,hxv,hl1,hl2,hl3⟩:=hx.len;obtain⟨yo,yc,hyv,-,-,-⟩:=ha.len;obtain⟨zo,zc,hzv,-,-,-⟩:=hb.len;subst hxv hyv hzv;have h1:=(hs t (.self t)).1;have h2:=(hs t (.self t)).2.1;have HN:=Hid.mk (fun(w':World) (hw:Below w.heap.size w w')=>l9Here_any t B xo xc yo yc zo zc w' (hx.grow hw) (by unfold maxLen;omega) (by unfold maxLen;omega));clear iha ihb hs h1 h2 ha hb;have hnode:Hid (nodeS t=(t.x.all okE&&(hereK t.k t.s t.t t.x.length t.a.length t.b.length&&callB t.k t.x))):=rfl;rw[hnode.out] at HT;clear hnode;obtain⟨R,hR⟩:∃ R,t.okT=R:=⟨_,rfl⟩;obtain⟨nb,hnb⟩:∃ nb,(hereK t.k t.s t.t t.x.length t.a.length t.b.length&&callB t.k t.x)=nb:=⟨_,rfl⟩;rw[hnb] at HN HT;rw[hR] at HT;rw[hR];clear hnb hR;obtain⟨k,hk⟩:∃ k,t.k=k:=⟨_,rfl⟩;obtain⟨s,hsn⟩:∃ s,t.s=s:=⟨_,rfl⟩;obtain⟨u,hun⟩:∃ u,t.t=u:=⟨_,rfl⟩;obtain⟨l,hln⟩:∃ l,t.x=l:=⟨_,rfl⟩;obtain⟨a,han⟩:∃ a,t.a=a:=⟨_,rfl⟩;obtain⟨b,hbn⟩:∃ b,t.b=b:=⟨_,rfl⟩;rw[hk,hsn,hun,hln,han,hbn] at HN;rw[hk,hsn,hun,hln,han,hbn];rw[hln,han,hbn] at HT;rw[han] at HA;rw[hbn] at HB;rw[hln] at HX hx hl1;clear hk hsn hun hln han hbn;have hm:xc<=9223372036854775807:=by unfold maxLen at hl2;omega
 have HH:=Hid.mk hx;clear hx hl2;have B0:Below w.heap.size w (w.alloc (.cells #[.int .i64 k,.string s,.string u,.slice xo l.length xc,.slice yo a.length yc,.slice zo b.length zc] 52)):=(Below.refl _ _).alloc (Nat.le_refl _) _;have B01:Below (w.heap.size+1) (w.alloc (.cells #[.int .i64 k,.string s,.string u,.slice xo l.length xc,.slice yo a.length yc,.slice zo b.length zc] 52)) (w.alloc (.cells #[.int .i64 k,.string s,.string u,.slice xo l.length xc,.slice yo a.length yc,.slice zo b.length zc] 52)):=Below.refl _ _;go_enter Tryz.func150,Tryz.ntmps150
 go_wp2;go_loopw [3] (fun i wr=>∃ (k1:Nat),k1<=l.length/\i=.int .i64 k1/\Hid (∀ j (hj:j<l.length),j<k1->okE l[j]=true)/\Below (w.heap.size+1) (w.alloc (.cells #[.int .i64 k,.string s,.string u,.slice xo l.length xc,.slice yo a.length yc,.slice zo b.length zc] 52)) wr) (fun i _=>l.length-(intOf i).toNat)
 case atStart=>exact⟨0,Nat.zero_le _,rfl,fun j _ hj=>absurd hj (Nat.not_lt_zero j),B01⟩
 case round =>
  obtain⟨k1,hk,rfl,Ho,hbel⟩:=hrel;clear B01;have hc1:=fun o=>hbel.cell (p:=⟨w.heap.size,o,none⟩) (by simp);have hbw:=B0.trans (hbel.mono (by omega));have hs1:=hbel.size;simp at hs1;by_cases hkl:k1<l.length
  ·have hi1:(k1:Int)<(l.length:Int):=by omega
   obtain⟨bb,off,V,rfl,hel⟩:=HH.out.elems (by intro hn;rw[hn] at hkl;simp at hkl);obtain⟨h3,hsub,hss⟩:=hel k1 hkl;have hall:ShX l[k1]:=HX.out _ (List.getElem_mem hkl);have HNO:=Hid.mk (fun h=>allE_no (l:=l) hkl h);have HO2:Hid (okE l[k1]=true->∀ j (hj:j<l.length),j<k1+1->okE l[j]=true):=by
    intro hne j hj hj1;by_cases hj2:j<k1
    ·exact Ho.out j hj hj2
    ·obtain rfl:j=k1:=by omega
     exact hne
   obtain⟨t',ht⟩:∃ t,l[k1]=t:=⟨_,rfl⟩;rw[ht] at h3 hsub hss HNO HO2 hall;clear ht hel;obtain⟨c0,cn,c1,c2⟩:=h3.kept (w':=wr) (hbw.block bb (World.block_lt_of_cell? w _ h3.1));have cA:=Hid.mk (specExprOk_any t' B (V k1) wr (hsub.grow hbw) hall);obtain⟨ok,hok⟩:∃ ok,okE t'=ok:=⟨_,rfl⟩;obtain⟨tk,htk⟩:∃ tk,t'.k=tk:=⟨_,rfl⟩;obtain⟨tn,htn⟩:∃ tn,t'.n=tn:=⟨_,rfl⟩;obtain⟨ts,hts⟩:∃ ts,t'.s=ts:=⟨_,rfl⟩;obtain⟨av,cv,hv,-,-,-⟩:=hsub.len;rw[hok,htk,htn,hts,hv] at cA;rw[htk] at c0;rw[htn] at cn;rw[hts] at c1;rw[hv] at c2;rw[hok] at HNO HO2;clear hsub hss h3 hok htk htn hts hv hall hbw;cases ok with
   | false =>
    have HR:Hid (false=R):=(by show _=_;rw[HT.out,HNO.out rfl];simp);clear HNO HO2 HT HX HH HN HA HB;go_wp2_with fail
    refine cA.out.mono ?_;rintro e w2 ⟨rfl,hb2⟩;have B3:=B0.trans ((hbel.trans (hb2.mono (by omega))).mono (by omega));clear hbel hb2 cA hc1;go_wp2;go_ret;exact⟨ret_tb HR.out,B3⟩
   | true =>
    have HO3:=Hid.mk (HO2.out rfl);clear HNO HO2;go_wp2_with fail
    refine cA.out.mono ?_;rintro e w2 ⟨rfl,hb2⟩;have B3:=hbel.trans (hb2.mono (by omega));clear hbel hb2 cA hc1;go_wp2;go_roundw
    case rel=>exact⟨k1+1,by omega,by go_num,HO3,B3⟩
    case measure=>simp[intOf];omega
  ·have e:k1=l.length:=by omega
   subst e;have HE:Hid (R=(nb&&okSL a&&okSL b)):=by
    show _=_
    rw[HT.out,allE_yes (fun j hj=>Ho.out j hj hj)];cases nb <;> cases okSL a <;> cases okSL b <;> rfl
   obtain⟨oa,hoa⟩:∃ o,okSL a=o:=⟨_,rfl⟩;obtain⟨ob,hob⟩:∃ o,okSL b=o:=⟨_,rfl⟩;rw[hoa,hob] at HE;rw[hoa] at HA;rw[hob] at HB;clear Ho HT HX HH hoa hob hbel;cases nb with
   | false =>
    go_wp2_with fail
    refine(HN.out _ hbw).mono ?_;rintro e w2 ⟨rfl,hb2⟩;have B3:=hbw.trans (hb2.mono hbw.size);clear hb2 HN hc1 hbw HA HB;go_wp2;go_ret;exact⟨ret_tb (by rw[HE.out];rfl),B3⟩
   | true =>
    cases oa with
    | false =>
     go_wp2_with fail
     refine(HN.out _ hbw).mono ?_;rintro e w2 ⟨rfl,hb2⟩;have B3:=hbw.trans (hb2.mono hbw.size);have hc2:=fun o=>hb2.cell (p:=⟨w.heap.size,o,none⟩) (by show w.heap.size<_;omega);clear hb2 HN;go_wp2_with fail
     refine(HA.out _ B3).mono ?_;rintro e w3 ⟨rfl,hb3⟩;have B4:=B3.trans (hb3.mono B3.size);clear hb3 HA HB hc1 hc2 hbw B3;go_wp2;go_ret;exact⟨ret_tb (by rw[HE.out];rfl),B4⟩
    | true =>
     have s1:w.heap.size<wr.heap.size:=(by omega);go_wp2_with fail
     refine(HN.out _ hbw).mono ?_;rintro e w2 ⟨rfl,hb2⟩;have B3:=hbw.trans (hb2.mono hbw.size);have hc2:=fun o=>hb2.cell (p:=⟨w.heap.size,o,none⟩) (by show w.heap.size<_;omega);have s2:w.heap.size<w2.heap.size:=Nat.lt_of_lt_of_le s1 hb2.size;clear hb2 HN;go_wp2_with fail
     refine(HA.out _ B3).mono ?_;rintro e w3 ⟨rfl,hb3⟩;have B4:=B3.trans (hb3.mono B3.size);have hc3:=fun o=>hb3.cell (p:=⟨w.heap.size,o,none⟩) s2;clear hb3 HA hbw B3;go_wp2_with fail
     refine(HB.out _ B4).mono ?_;rintro e w4 ⟨rfl,hb4⟩;have B5:=B4.trans (hb4.mono B4.size);clear hb4 HB hc1 hc2 hc3 B4;go_wp2;go_ret;exact⟨ret_tb (by rw[HE.out];cases ob <;> rfl),B5⟩
theorem okY_any (t:St):OkY t:=by
 refine St.ind (P:=OkY) (fun t iha ihb=>?_) t;exact okY_step t (okYL_step t.a iha) (okYL_step t.b ihb)
end Go.Proofs.YtkbijjkgfojchaaGreat
