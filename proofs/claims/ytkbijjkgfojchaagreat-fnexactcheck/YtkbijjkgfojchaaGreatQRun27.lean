/- Which programs are right: the model's l10Body,l10Zero,l10Rule,l10Params,l10Fn,ProgOk. .. -/
import Derived.Test.YtkbijjkgfojchaaGreatQRun26
namespace Go.Proofs.YtkbijjkgfojchaaGreat
set_option maxHeartbeats 2000000
open Go.RowKit
set_option maxRecDepth 8000
noncomputable def bodyB (l:List St):Bool:=l.all okS&&decide (l.length<=20)
def zeroB (p:Ex):Bool:=p.k==0&&p.n==0&&p.s.toList.isEmpty&&(p.l.length:Int)==0
noncomputable def ruleB (r:Ru):Bool :=
 if r.k=1\/r.k=2\/r.k=3 then zeroB r.p&&bodyB r.a else if r.k=4 then okE r.p&&bodyB r.a else false
def hasT (l:List ByteArray) (s:ByteArray):Bool:=l.any fun x=>x.toList==s.toList
open Classical in
noncomputable def paramsB (l:List ByteArray):Bool:=decide ((∀ i (h:i<l.length),nmB l[i]=true/\hasT (l.take i) l[i]=false)/\l.length<=4)
def FnP (l:List Fu) (i:Nat) (h:i<l.length):Prop:=nmB l[i].n=true/\(∀ j (hj:j<i),(l[j].n.toList==l[i].n.toList)=false)/\paramsB l[i].ps=true/\bodyB l[i].a=true
open Classical in
noncomputable def progB (p:Pg):Bool:=decide ((∀ r∈p.r,ruleB r=true)/\(∀ i (h:i<p.f.length),FnP p.f i h)/\p.r.length<=10/\p.f.length<=6)
theorem progB_iff {p:Pg}:progB p=true↔(∀ r∈p.r,ruleB r=true)/\(∀ i (h:i<p.f.length),FnP p.f i h)/\p.r.length<=10/\p.f.length<=6:=by simp[progB]
theorem paramsB_iff {l:List ByteArray}:paramsB l=true↔(∀ i (h:i<l.length),nmB l[i]=true/\hasT (l.take i) l[i]=false)/\l.length<=4:=by simp[paramsB]
def ShRu (r:Ru):Prop:=ShX r.p/\∀ y∈r.a,ShY y
def ShFu (f:Fu):Prop:=∀ y∈f.a,ShY y
def ShPg (p:Pg):Prop:=(∀ r∈p.r,ShRu r)/\∀ f∈p.f,ShFu f
theorem allS_no {l:List St} {k:Nat} (h:k<l.length) (hk:okS l[k]=false):l.all okS=false:=by
 cases hb:l.all okS with
 | false=>rfl
 | true=>have:=List.all_eq_true.1 hb _ (List.getElem_mem h);rw[hk] at this;cases this
theorem allS_yes {l:List St} (h:∀ j (hj:j<l.length),okS l[j]=true):l.all okS=true:=by
 rw[List.all_eq_true];intro x hx;obtain⟨j,hj,rfl⟩:=List.getElem_of_mem hx;exact h j hj
theorem l10Body_any (l:List St) (B:Nat->Prop) (v:Value) (w:World) (h:Sl w B l v) (hs:∀ y∈l,ShY y) :
  Calls Tryz.prog 71 #[v] w fun e w'=>e=.returned (.bool (bodyB l))/\Below w.heap.size w w':=by
 have HR0:Hid (bodyB l=(l.all okS&&decide (l.length<=20))):=rfl;obtain⟨R,hR⟩:∃ R,bodyB l=R:=⟨_,rfl⟩;rw[hR] at HR0 |-;clear hR;obtain⟨ao,cap,rfl,hl1,hl2,hl3⟩:=h.len;have hm:cap<=9223372036854775807:=by unfold maxLen at hl2;omega
 have HH:=Hid.mk h;have HS:=Hid.mk hs;clear h hs hl2;go_enter Tryz.func71,Tryz.ntmps71
 go_wp2;go_loopw [3] (fun i wr=>∃ (k1:Nat),k1<=l.length/\i=.int .i64 k1/\Hid (∀ j (hj:j<l.length),j<k1->okS l[j]=true)/\Below w.heap.size w wr) (fun i _=>l.length-(intOf i).toNat)
 case atStart=>exact⟨0,Nat.zero_le _,rfl,fun j _ hj=>absurd hj (Nat.not_lt_zero j),Below.refl _ _⟩
 case round =>
  obtain⟨k1,hk,rfl,Ho,hbel⟩:=hrel;by_cases hkl:k1<l.length
  ·have hi1:(k1:Int)<(l.length:Int):=by omega
   obtain⟨b,off,X,Y,Z,rfl,hel⟩:=HH.out.elems (by intro hn;rw[hn] at hkl;simp at hkl);obtain⟨h3,hx,ha,hz,-,-⟩:=hel k1 hkl;have hall:ShY l[k1]:=HS.out _ (List.getElem_mem hkl);have HNO:=Hid.mk (fun h=>allS_no (l:=l) hkl h);have HO2:Hid (okS l[k1]=true->∀ j (hj:j<l.length),j<k1+1->okS l[j]=true):=by
    intro hne j hj hj1;by_cases hj2:j<k1
    ·exact Ho.out j hj hj2
    ·obtain rfl:j=k1:=by omega
     exact hne
   obtain⟨t',ht⟩:∃ t,l[k1]=t:=⟨_,rfl⟩;rw[ht] at h3 hx ha hz HNO HO2 hall;clear ht hel;obtain⟨c0,c1,c2,c3,c4,c5⟩:=h3.kept (w':=wr) (hbel.block b (World.block_lt_of_cell? w _ h3.1));have cA:=Hid.mk (specStmtOk_any t' B (X k1) (Y k1) (Z k1) wr (hx.grow hbel) (ha.grow hbel) (hz.grow hbel) hall);obtain⟨ok,hok⟩:∃ ok,okS t'=ok:=⟨_,rfl⟩;rw[hok] at cA HNO HO2;clear hx ha hz h3 hok hall;cases ok with
   | false =>
    have HR:Hid (false=R):=(by show _=_;rw[HR0.out,HNO.out rfl];rfl);clear HNO HO2 HR0 HH HS;go_wp2_with fail
    refine cA.out.mono ?_;rintro e w2 ⟨rfl,hb2⟩;have B3:=hbel.trans (hb2.mono hbel.size);clear hbel hb2 cA;go_wp2;go_ret;exact⟨ret_tb HR.out,B3⟩
   | true =>
    have HO3:=Hid.mk (HO2.out rfl);clear HNO HO2;go_wp2_with fail
    refine cA.out.mono ?_;rintro e w2 ⟨rfl,hb2⟩;have B3:=hbel.trans (hb2.mono hbel.size);clear hbel hb2 cA;go_wp2;go_roundw
    case rel=>exact⟨k1+1,by omega,by go_num,HO3,B3⟩
    case measure=>simp[intOf];omega
  ·have e:k1=l.length:=by omega
   subst e;have HE:Hid (decide ((l.length:Int)<=20)=R):=by
    show _=_
    rw[HR0.out,allS_yes (fun j hj=>Ho.out j hj hj),Bool.true_and];by_cases h:l.length<=20
    ·rw[decide_eq_true h,decide_eq_true (by omega)]
    ·rw[decide_eq_false h,decide_eq_false (by omega)]
   clear Ho HR0 HH HS;go_wp2;go_ret;exact⟨ret_tb HE.out,hbel⟩
theorem l10Zero_any (t:Ex) (v:Value) (w:World) (hv:∃ ao cap,v=.slice ao t.l.length cap) :
  Calls Tryz.prog 104 #[xx t.k t.n t.s v] w fun e w'=>e=.returned (.bool (zeroB t))/\Below w.heap.size w w':=by
 obtain⟨ao,cap,rfl⟩:=hv;have HR:Hid (zeroB t=(t.k==0&&t.n==0&&t.s.toList.isEmpty&&(t.l.length:Int)==0)):=rfl;obtain⟨R,hR⟩:∃ R,zeroB t=R:=⟨_,rfl⟩;rw[hR] at HR |-;clear hR;have A0:Below w.heap.size w (w.alloc (.cells #[.int .i64 t.k,.int .i64 t.n,.string t.s,.slice ao t.l.length cap] 54)):=(Below.refl _ _).alloc (Nat.le_refl _) _;cases h1:(t.k==0) with
 | false =>
  go_enter Tryz.func104,Tryz.ntmps104
  go_wp2;go_ret;exact⟨ret_tb (by rw[HR.out,h1];rfl),A0⟩
 | true =>
  cases h2:(t.n==0) with
  | false =>
   go_enter Tryz.func104,Tryz.ntmps104
   go_wp2;go_ret;exact⟨ret_tb (by rw[HR.out,h1,h2];rfl),A0⟩
  | true =>
   cases h3:t.s.toList.isEmpty with
   | false =>
    go_enter Tryz.func104,Tryz.ntmps104
    go_wp2;go_ret;exact⟨ret_tb (by rw[HR.out,h1,h2,h3];rfl),A0⟩
   | true =>
    go_enter Tryz.func104,Tryz.ntmps104
    go_wp2;go_ret;exact⟨ret_tb (by rw[HR.out,h1,h2,h3];rfl),A0⟩
theorem l10Rule_any (t:Ru) (B:Nat->Prop) (x y:Value) (w:World) (hx:El w B t.p.l x) (hy:Sl w B t.a y) (hs:ShRu t) :
  Calls Tryz.prog 68 #[ruV t x y] w fun e w'=>e=.returned (.bool (ruleB t))/\Below w.heap.size w w':=by
 have HZ:=Hid.mk (fun(w':World)=>l10Zero_any t.p x w' (by obtain⟨a,c,e,-⟩:=hx.len;exact⟨a,c,e⟩));have HE:=Hid.mk (fun(w':World) (hw:Below w.heap.size w w')=>specExprOk_any t.p B x w' (hx.grow hw) hs.1);have HB:=Hid.mk (fun(w':World) (hw:Below w.heap.size w w')=>l10Body_any t.a B y w' (hy.grow hw) hs.2);have HR:Hid (ruleB t=if t.k=1\/t.k=2\/t.k=3 then zeroB t.p&&bodyB t.a else if t.k=4 then okE t.p&&bodyB t.a else false):=rfl;obtain⟨R,hR⟩:∃ R,ruleB t=R:=⟨_,rfl⟩;rw[hR] at HR |-;clear hR;obtain⟨xo,xc,rfl,-,-,-⟩:=hx.len;obtain⟨yo,yc,rfl,-,-,-⟩:=hy.len;clear hx hy hs;have A0:Below w.heap.size w (w.alloc (.cells #[.int .i64 t.k,.int .i64 t.p.k,.int .i64 t.p.n,.string t.p.s,.slice xo t.p.l.length xc,.slice yo t.a.length yc] 56)):=(Below.refl _ _).alloc (Nat.le_refl _) _;generalize zeroB t.p=z at *;generalize okE t.p=o at *;generalize bodyB t.a=q at *;obtain⟨k,hk⟩:∃ k,t.k=k:=⟨_,rfl⟩;rw[hk] at HR A0;unfold ruV;rw[hk];clear hk;by_cases k4:k=4
 ·subst k4
  have HR2:Hid (R=(o&&q)):=(by show _=_;rw[HR.out];simp);clear HR HZ;cases o with
  | false =>
   go_enter Tryz.func68,Tryz.ntmps68
   go_wp2_with fail
   refine(HE.out _ A0).mono ?_;rintro e w1 ⟨rfl,hb1⟩;have B1:=A0.trans (hb1.mono (by simp));clear A0 hb1 HE HB;go_wp2;go_ret;exact⟨ret_tb (by rw[HR2.out];rfl),B1⟩
  | true =>
   go_enter Tryz.func68,Tryz.ntmps68
   go_wp2_with fail
   refine(HE.out _ A0).mono ?_;rintro e w1 ⟨rfl,hb1⟩;have B1:=A0.trans (hb1.mono (by simp));have hc1:=fun o=>hb1.cell (p:=⟨w.heap.size,o,none⟩) (by simp);clear A0 hb1 HE;go_wp2_with fail
   refine(HB.out _ B1).mono ?_;rintro e w2 ⟨rfl,hb2⟩;have B2:=B1.trans (hb2.mono B1.size);clear B1 hb2 HB hc1;go_wp2;go_ret;exact⟨ret_tb (by rw[HR2.out];simp),B2⟩
 have k4b:(k==4)=false:=beq_eq_false_iff_ne.2 k4;by_cases k0:k=1\/k=2\/k=3
 ·have HR2:Hid (R=(z&&q)):=by show _=_;rw[HR.out,if_pos k0]
  clear HR HE k4;rcases k0 with rfl | rfl | rfl;all_goals
   cases z with
   | false =>
    go_enter Tryz.func68,Tryz.ntmps68
    go_wp2_with fail
    refine(HZ.out _).mono ?_;rintro e w1 ⟨rfl,hb1⟩;have B1:=A0.trans (hb1.mono (by simp));clear A0 hb1 HZ HB;go_wp2;go_ret;exact⟨ret_tb (by rw[HR2.out];rfl),B1⟩
   | true =>
    go_enter Tryz.func68,Tryz.ntmps68
    go_wp2_with fail
    refine(HZ.out _).mono ?_;rintro e w1 ⟨rfl,hb1⟩;have B1:=A0.trans (hb1.mono (by simp));have hc1:=fun o=>hb1.cell (p:=⟨w.heap.size,o,none⟩) (by simp);clear A0 hb1 HZ;go_wp2_with fail
    refine(HB.out _ B1).mono ?_;rintro e w2 ⟨rfl,hb2⟩;have B2:=B1.trans (hb2.mono B1.size);clear B1 hb2 HB hc1;go_wp2;go_ret;exact⟨ret_tb (by rw[HR2.out];simp),B2⟩
 ·have HR2:Hid (R=false):=by show _=_;rw[HR.out,if_neg k0,if_neg k4]
  have k1b:(k==1)=false:=beq_eq_false_iff_ne.2 (by omega);have k2b:(k==2)=false:=beq_eq_false_iff_ne.2 (by omega);have k3b:(k==3)=false:=beq_eq_false_iff_ne.2 (by omega);clear HR HE HZ HB k0 k4;go_enter Tryz.func68,Tryz.ntmps68
  go_wp2;go_ret;exact⟨ret_tb HR2.out.symm,A0⟩
theorem hasT_yes {l:List ByteArray} {s:ByteArray} {k:Nat} (h:k<l.length) (hk:(l[k].toList==s.toList)=true):hasT l s=true :=
 List.any_eq_true.2 ⟨_,List.getElem_mem h,hk⟩
theorem hasT_no {l:List ByteArray} {s:ByteArray} (h:∀ j (hj:j<l.length),(l[j].toList==s.toList)=false):hasT l s=false:=by
 rw[hasT,List.any_eq_false];intro x hx;obtain⟨j,hj,rfl⟩:=List.getElem_of_mem hx;rw[h j hj];simp
theorem hasT_any (xs:List ByteArray) (b off n cap:Nat) (s:ByteArray) (w:World) (hc:∀ j (h:j<xs.length),w.cell? ⟨b,off+j,none⟩=some (.string xs[j])) (hn:n=xs.length) (hcap:n<=cap) (hcm:cap<=9223372036854775807) :
  Calls Tryz.prog 74 #[.slice (some ⟨b,off,none⟩) n cap,.string s] w fun e w'=>e=.returned (.bool (hasT xs s))/\w'=w:=by
 have HC:=Hid.mk hc;have HY:=Hid.mk (fun k h hk=>hasT_yes (l:=xs) (s:=s) (k:=k) h hk);have HN:=Hid.mk (fun h=>hasT_no (l:=xs) (s:=s) h);have HL:=Hid.mk hn;obtain⟨R,hR⟩:∃ R,hasT xs s=R:=⟨_,rfl⟩;rw[hR] at HY HN |-;clear hR hc hn;go_enter Tryz.func74,Tryz.ntmps74
 go_wp2;go_loop [5] (fun i=>∃ k:Nat,i=.int .i64 k/\k<=n/\Hid (∀ j (hj:j<xs.length),j<k->(xs[j].toList==s.toList)=false)) (fun i=>n-(intOf i).toNat)
 case atStart=>exact⟨0,rfl,Nat.zero_le _,fun j _ hj=>by omega⟩
 case round =>
  obtain⟨k,rfl,hk,HA⟩:=hrel;by_cases hlt:k<n
  ·have hki:(k:Int)<(n:Int):=by omega
   have hkx:k<xs.length:=(by have:=HL.out;omega);have c0:=HC.out k hkx;cases h:(xs[k].toList==s.toList) with
   | true =>
    have HF:=Hid.mk (HY.out k hkx h);generalize xs[k]=x at c0 h;clear HA HY HN;go_wp2;go_ret;exact⟨ret_tb HF.out.symm,rfl⟩
   | false =>
    have HA2:Hid (∀ j (hj:j<xs.length),j<k+1->(xs[j].toList==s.toList)=false):=fun j hj hj1=>by
     by_cases e:j=k
     ·subst e;exact h
     ·exact HA.out j hj (by omega)
    generalize xs[k]=x at c0 h;clear HA HY HN;go_wp2;go_round
    case rel=>exact⟨k+1,by go_num,by omega,HA2⟩
    case measure=>simp[intOf];omega
  ·have HF:=Hid.mk (HN.out fun j hj=>HA.out j hj (by have:=HL.out;omega))
   have hki:¬ (k:Int)<(n:Int):=(by omega);clear HA HY HN;go_wp2;go_ret;exact⟨ret_tb HF.out.symm,rfl⟩
def FnAt (l:List Fu) (s:ByteArray) (m:Int):Prop :=
 (m = -1/\∀ j (hj:j<l.length),(l[j].n.toList==s.toList)=false)\/∃ i,∃ h:i<l.length,m=i/\(l[i].n.toList==s.toList)=true/\∀ j (hj:j<i),(l[j].n.toList==s.toList)=false
theorem l10Fn_any (p:Pg) (B:Nat->Prop) (x y:Value) (s:ByteArray) (w:World) (hx:∃ o n c,x=.slice o n c) (hy:Fl w B p.f y) :
  Calls Tryz.prog 41 #[pgV x y,.string s] w fun e w'=>∃ m,e=.returned (.int .i64 m)/\FnAt p.f s m/\Below w.heap.size w w':=by
 obtain⟨xo,xn,xc,rfl⟩:=hx;obtain⟨l,hl⟩:∃ l,p.f=l:=⟨_,rfl⟩;rw[hl] at hy |-;clear hl;obtain⟨yo,yc,rfl,hl1,hl2,-⟩:=hy.len;have hm:yc<=9223372036854775807:=by unfold maxLen at hl2;omega
 have HH:=Hid.mk hy;clear hy hl2;have A0:Below w.heap.size w (w.alloc (.cells #[.slice xo xn xc,.slice yo l.length yc] 27)):=(Below.refl _ _).alloc (Nat.le_refl _) _;go_enter Tryz.func41,Tryz.ntmps41
 go_wp2;go_loopw [5] (fun i wr=>∃ (k1:Nat),k1<=l.length/\i=.int .i64 k1/\Hid (∀ j (hj:j<l.length),j<k1->(l[j].n.toList==s.toList)=false)/\wr=(w.alloc (.cells #[.slice xo xn xc,.slice yo l.length yc] 27))) (fun i _=>l.length-(intOf i).toNat)
 case atStart=>exact⟨0,Nat.zero_le _,rfl,fun j _ hj=>absurd hj (Nat.not_lt_zero j),rfl⟩
 case round =>
  obtain⟨k1,hk,rfl,Ho,rfl⟩:=hrel;by_cases hkl:k1<l.length
  ·have hi1:(k1:Int)<(l.length:Int):=by omega
   obtain⟨b,off,X,Y,rfl,hel⟩:=HH.out.elems (by intro hn;rw[hn] at hkl;simp at hkl);obtain⟨h3,-⟩:=hel k1 hkl;have hlt:=World.block_lt_of_cell? w _ h3.1;obtain⟨c0,-,-⟩:=h3.kept (w':=(w.alloc (.cells #[.slice xo xn xc,.slice (some ⟨b,off,none⟩) l.length yc] 27))) (A0.block b hlt);clear h3 hel;cases hq:(l[k1].n.toList==s.toList) with
   | true =>
    have HF:Hid (FnAt l s k1):=.inr ⟨k1,hkl,rfl,hq,fun j hj=>Ho.out j (by omega) hj⟩;generalize l[k1].n=z at c0 hq;clear Ho HH;go_wp2;go_ret;exact⟨_,rfl,HF.out,A0⟩
   | false =>
    have HO2:Hid (∀ j (hj:j<l.length),j<k1+1->(l[j].n.toList==s.toList)=false):=by
     intro j hj hj1;by_cases hj2:j<k1
     ·exact Ho.out j hj hj2
     ·obtain rfl:j=k1:=by omega
      exact hq
    generalize l[k1].n=z at c0 hq;clear Ho;go_wp2;go_roundw
    case rel=>exact⟨k1+1,by omega,by go_num,HO2,by trivial⟩
    case measure=>simp[intOf];omega
  ·have e:k1=l.length:=by omega
   subst e;have HF:Hid (FnAt l s (-1)):=.inl ⟨rfl,fun j hj=>Ho.out j hj hj⟩;clear Ho HH;go_wp2;go_ret;exact⟨_,rfl,HF.out,A0⟩
mutual
def Ex.sz:Ex->Nat
 | .node _ _ s l=>s.size+szx l
def szx:List Ex->Nat
 | []=>0
 | t :: r=>1+t.sz+szx r
end
theorem Ex.sz_eq (t:Ex):t.sz=t.s.size+szx t.l:=by cases t;rw[Ex.sz];rfl
theorem szx_take (l:List Ex) (k:Nat) (h:k<l.length):szx (l.take (k+1))=szx (l.take k)+1+l[k].sz:=by
 induction l generalizing k with
 | nil=>simp at h
 | cons t r ih =>
  cases k with
  | zero=>simp[szx]
  | succ k =>
   have:=ih k (by simpa using h);simp only[List.take_succ_cons,szx,List.getElem_cons_succ];omega
theorem szx_take_le (l:List Ex) (k:Nat):szx (l.take k)<=szx l:=by
 induction l generalizing k with
 | nil=>simp
 | cons t r ih =>
  cases k with
  | zero=>simp[szx]
  | succ k=>have:=ih k;simp only[List.take_succ_cons,szx];omega
theorem szx_length (l:List Ex):l.length<=szx l:=by
 induction l with
 | nil=>simp
 | cons t r ih=>simp only[List.length_cons,szx];omega
theorem szx_take_length (l:List Ex) (k:Nat) (h:k<=l.length):szx (l.take k)+(l.length-k)<=szx l:=by
 induction l generalizing k with
 | nil=>simp
 | cons t r ih =>
  cases k with
  | zero=>have:=szx_length (t :: r);simpa [szx] using this
  | succ k=>have:=ih k (by simpa using h);simp only[List.take_succ_cons,szx,List.length_cons];omega
def SzX (l:List Ex):Prop:=∀ (B:Nat->Prop) (v:Value) (w:World) (left:Int),El w B l v->0<=left->left<=1048576 ->
 Calls Tryz.prog 159 #[v,.int .i64 left] w fun e w'=>e=.returned (.int .i64 (leftOf left (szx l)))/\Below w.heap.size w w'
theorem szExpr_of (t:Ex) (ih:SzX t.l) (B:Nat->Prop) (v:Value) (w:World) (left:Int) (h:El w B t.l v) (hs:t.s.size<=maxLen) (h0:0<=left) (h1:left<=1048576) :
  Calls Tryz.prog 121 #[xx t.k t.n t.s v,.int .i64 left] w fun e w'=>e=.returned (.int .i64 (leftOf left t.sz))/\Below w.heap.size w w':=by
 have HE:=Hid.mk t.sz_eq;obtain⟨k,hk⟩:∃ k,t.k=k:=⟨_,rfl⟩;obtain⟨n,hnn⟩:∃ n,t.n=n:=⟨_,rfl⟩;obtain⟨s,hsn⟩:∃ s,t.s=s:=⟨_,rfl⟩;obtain⟨l,hln⟩:∃ l,t.l=l:=⟨_,rfl⟩;obtain⟨z,hz⟩:∃ z,t.sz=z:=⟨_,rfl⟩;rw[hk,hnn,hsn,hz];rw[hsn] at hs HE;rw[hln] at h ih HE;rw[hz] at HE;clear hk hnn hsn hln hz;unfold maxLen at hs;have B0:Below w.heap.size w (w.alloc (.cells #[.int .i64 k,.int .i64 n,.string s,v] 116)):=(Below.refl _ _).alloc (Nat.le_refl _) _;obtain⟨ao,cap,rfl,hl1,hl2,hl3⟩:=h.len;by_cases hlt:left<s.size
 ·have hh:left-(s.size:Int)<0:=by omega
  have HR:Hid (leftOf left z = -1):=(by show _=_;unfold leftOf;have:=HE.out;rw[if_pos (by omega)]);clear HE;go_enter Tryz.func121,Tryz.ntmps121
  go_wp2;go_ret;exact⟨ret_int' HR.out.symm,B0⟩
 ·have hh:¬ left-(s.size:Int)<0:=by omega
  have hh1:0<=left-(s.size:Int):=(by omega);have hh2:left-(s.size:Int)<=1048576:=(by omega);have h':=Hid.mk (h.grow B0);have HI:=Hid.mk ih;clear ih h;obtain⟨m,Hm⟩:∃ m,Hid (leftOf (left-(s.size:Int)) (szx l)=m):=⟨_,rfl⟩;have HR:Hid (m=leftOf left z):=by
   show _=_
   rw[<- Hm.out,HE.out];unfold leftOf;split <;> split <;> omega
  clear HE;by_cases hm:m<0
  all_goals
   have hm':=hm;go_enter Tryz.func121,Tryz.ntmps121
   go_wp2_with fail
   refine(HI.out _ _ _ _ h'.out hh1 hh2).mono ?_;rintro e w1 ⟨rfl,hb1⟩;rw[Hm.out];have B1:=B0.trans (hb1.mono (by simp));clear B0 hb1 HI h';go_wp2;go_ret;exact⟨ret_int' (by first | exact HR.out | (have:=HR.out;unfold leftOf at this |-;split at this <;> omega)),B1⟩
theorem szExprS_step (l:List Ex) (ih:∀ x∈l,SzX x.l):SzX l:=by
 intro B v w left h h0 h1;obtain⟨ao,cap,rfl,hl1,hl2,hl3⟩:=h.len;have hm:cap<=9223372036854775807:=by unfold maxLen at hl2;omega
 have hlen:=szx_length l;by_cases hlt:left<l.length
 ·have hh:left-(l.length:Int)<0:=by omega
  have HR:Hid (leftOf left (szx l) = -1):=(by show _=_;unfold leftOf;rw[if_pos (by omega)]);clear h ih hl2 hlen;go_enter Tryz.func159,Tryz.ntmps159
  go_wp2;go_ret;exact⟨ret_int' HR.out.symm,Below.refl _ _⟩
 ·have hh:¬ left-(l.length:Int)<0:=by omega
  have HI:=Hid.mk ih;have HH:=Hid.mk h;have HL:=Hid.mk hlen;clear ih h hl2 hlen;go_enter Tryz.func159,Tryz.ntmps159
  go_wp2;go_loopw [1,5] (fun q i wr=>∃ (k:Nat) (r:Int),k<=l.length/\i=.int .i64 k/\q=.int .i64 r/\0<=r/\r<=1048576/\Hid (r=left-(l.length:Int)-(szx (l.take k):Int)+(k:Int))/\Below w.heap.size w wr) (fun _ i _=>l.length-(intOf i).toNat)
  case atStart=>exact⟨0,left-(l.length:Int),Nat.zero_le _,rfl,rfl,by omega,by omega,by show _=_;simp[szx],Below.refl _ _⟩
  case round =>
   obtain⟨k,r,hk,rfl,rfl,r0,r1,Hr,hbel⟩:=hrel;by_cases hkl:k<l.length
   ·obtain⟨b,off,V,rfl,hel⟩:=HH.out.elems (by intro hn;rw[hn] at hkl;simp at hkl)
    obtain⟨h3,hsub,hss⟩:=hel k hkl;have HE:=Hid.mk (szx_take l k hkl);have HT:=Hid.mk (szx_take_le l (k+1));have HZ:=Hid.mk (szx_take_length l (k+1) hkl);have hsz:SzX l[k].l:=HI.out _ (List.getElem_mem hkl);obtain⟨t,ht⟩:∃ t,l[k]=t:=⟨_,rfl⟩;rw[ht] at h3 hsub hss HE hsz;clear ht hel;obtain⟨c0,cn,c1,c2⟩:=h3.kept (w':=wr) (hbel.block b (World.block_lt_of_cell? w _ h3.1));have HC:=Hid.mk (szExpr_of t hsz B (V k) wr r (hsub.grow hbel) hss r0 r1);have hi1:(k:Int)<(l.length:Int):=(by omega);obtain⟨m,Hm⟩:∃ m,Hid (leftOf r t.sz=m):=⟨_,rfl⟩;rw[Hm.out] at HC;clear hsub hss hsz h3;by_cases hm:m<0
    ·have HR:Hid (leftOf left (szx l) = -1):=by
      show _=_
      have e1:=Hm.out;have e2:=Hr.out;have e3:=HE.out;have e5:=HZ.out;unfold leftOf at e1 |-;split at e1 <;> split <;> omega
     clear HE HT Hr Hm HZ;go_wp2_with fail
     refine HC.out.mono ?_;rintro e w1 ⟨rfl,hb1⟩;have B1:=hbel.trans (hb1.mono hbel.size);clear hb1 HC;go_wp2;go_ret;exact⟨ret_int' HR.out.symm,B1⟩
    ·have HR:Hid (m=left-(l.length:Int)-(szx (l.take (k+1)):Int)+((k+1:Nat):Int)):=by
      show _=_
      have e1:=Hm.out;have e2:=Hr.out;have e3:=HE.out;unfold leftOf at e1;split at e1 <;> omega
     have hm1:m<=1048576:=by
      have e1:=Hm.out;unfold leftOf at e1;split at e1 <;> omega
     clear HE HT Hr Hm HZ;go_wp2_with fail
     refine HC.out.mono ?_;rintro e w1 ⟨rfl,hb1⟩;have B1:=hbel.trans (hb1.mono hbel.size);clear hb1 HC;go_wp2;go_roundw
     case rel=>exact⟨k+1,m,by omega,by go_num,rfl,by omega,hm1,HR,B1⟩
     case measure=>simp[intOf];omega
   ·have e:k=l.length:=by omega
    subst e;have HR:Hid (r=leftOf left (szx l)):=by
     show _=_
     have e2:=Hr.out;rw[List.take_length] at e2;unfold leftOf;split <;> omega
    clear Hr;go_wp2;go_ret;exact⟨ret_int' HR.out,hbel⟩
theorem szExprS_any (l:List Ex):SzX l:=(Ex.ind (P:=fun t=>SzX t.l) (fun t ih=>szExprS_step t.l ih) (.node 0 0 ⟨#[]⟩ l))
theorem szExpr_any (t:Ex) (B:Nat->Prop) (v:Value) (w:World) (left:Int) (h:El w B t.l v) (hs:t.s.size<=maxLen) (h0:0<=left) (h1:left<=1048576) :
  Calls Tryz.prog 121 #[xx t.k t.n t.s v,.int .i64 left] w fun e w'=>e=.returned (.int .i64 (leftOf left t.sz))/\Below w.heap.size w w' :=
 szExpr_of t (szExprS_any t.l) B v w left h hs h0 h1
theorem El.nfgrow {w w':World} {n:Nat} {l:List Ex} {v:Value} (h:El w (nf w n) l v) (hk:Below w.heap.size w w'):El w' (nf w' n) l v :=
 (h.imp (C:=nf w' n) fun b hb hlt=>⟨hb.1,fun o=>by rw[hk.frozen (p:=⟨b,o,none⟩) hlt];exact hb.2 o⟩).grow hk
theorem El.nfset {w:World} {n:Nat} {l:List Ex} {v:Value} (h:El w (nf w n) l v) {a:Addr} (ha:a.block<n) (u:Value):El (w.setCell a u) (nf (w.setCell a u) n) l v :=
 (h.setCell (fun hb=>by have:=hb.1;omega) u).imp fun b hb _=>⟨hb.1,fun o=>by rw[World.frozen?_setCell];exact hb.2 o⟩
def ToX (l:List Ex):Prop:=∀ (B:Nat->Prop) (v:Value) (w:World),El w B l v->szx l<=1048576 ->
 Calls Tryz.prog 161 #[v] w fun e w'=>∃ u,e=.returned u/\El w' (nf w' w.heap.size) l u/\Below w.heap.size w w'
theorem toExpr_of (t:Ex) (ih:ToX t.l) (B:Nat->Prop) (v:Value) (w:World) (h:El w B t.l v) (hs:szx t.l<=1048576) :
  Calls Tryz.prog 124 #[xx t.k t.n t.s v] w fun e w'=>∃ u,e=.returned (xx t.k t.n t.s u)/\El w' (nf w' (w.heap.size+1)) t.l u/\Below w.heap.size w w':=by
 obtain⟨k,hk⟩:∃ k,t.k=k:=⟨_,rfl⟩;obtain⟨n,hnn⟩:∃ n,t.n=n:=⟨_,rfl⟩;obtain⟨s,hsn⟩:∃ s,t.s=s:=⟨_,rfl⟩;obtain⟨l,hln⟩:∃ l,t.l=l:=⟨_,rfl⟩;rw[hk,hnn,hsn];rw[hln] at h ih hs;rw[hln];clear hk hnn hsn hln;have HI:=Hid.mk ih;have H1:=Hid.mk (fun w' (hb:Below w.heap.size w w')=>h.grow hb);obtain⟨ao,cap,rfl,hl1,hl2,hl3⟩:=h.len;clear ih h hl1 hl2 hl3;go_enter Tryz.func124,Tryz.ntmps124
 go_wp2_with fail
 refine(HI.out _ _ _ (H1.out _ ?_) hs).mono ?_
 ·exact((((Below.refl _ _).alloc (Nat.le_refl _) _).alloc (by simp) _).alloc (by simp;omega) _)
 rintro e w1 ⟨u,rfl,hr,hb1⟩;have hc1:=fun o=>hb1.cell (p:=⟨w.heap.size+1,o,none⟩) (by simp);have hc2:=fun o=>hb1.cell (p:=⟨w.heap.size+1+1,o,none⟩) (by simp);have hf1:=fun o=>hb1.frozen (p:=⟨w.heap.size+1,o,none⟩) (by simp);have hf2:=fun o=>hb1.frozen (p:=⟨w.heap.size+1+1,o,none⟩) (by simp);obtain⟨au,cu,rfl,-,-,-⟩:=hr.len;have HR:=Hid.mk hr;have HB:=Hid.mk hb1;clear hr hb1 H1 HI;go_wp2;have f0:(((((w1.setCell ⟨w.heap.size+1+1,3,none⟩ (.slice au l.length cu)).setCell ⟨w.heap.size+1,0,none⟩ (.int .i64 k)).setCell ⟨w.heap.size+1,1,none⟩ (.int .i64 n)).setCell ⟨w.heap.size+1,2,none⟩ (.string s)).setCell ⟨w.heap.size+1,3,none⟩ (.slice au l.length cu)).cell? ⟨w.heap.size+1,0,none⟩=some (.int .i64 k):=by go_simp
 have f1:(((((w1.setCell ⟨w.heap.size+1+1,3,none⟩ (.slice au l.length cu)).setCell ⟨w.heap.size+1,0,none⟩ (.int .i64 k)).setCell ⟨w.heap.size+1,1,none⟩ (.int .i64 n)).setCell ⟨w.heap.size+1,2,none⟩ (.string s)).setCell ⟨w.heap.size+1,3,none⟩ (.slice au l.length cu)).cell? ⟨w.heap.size+1,1,none⟩=some (.int .i64 n):=by go_simp
 have f2:(((((w1.setCell ⟨w.heap.size+1+1,3,none⟩ (.slice au l.length cu)).setCell ⟨w.heap.size+1,0,none⟩ (.int .i64 k)).setCell ⟨w.heap.size+1,1,none⟩ (.int .i64 n)).setCell ⟨w.heap.size+1,2,none⟩ (.string s)).setCell ⟨w.heap.size+1,3,none⟩ (.slice au l.length cu)).cell? ⟨w.heap.size+1,2,none⟩=some (.string s):=by go_simp
 have f3:(((((w1.setCell ⟨w.heap.size+1+1,3,none⟩ (.slice au l.length cu)).setCell ⟨w.heap.size+1,0,none⟩ (.int .i64 k)).setCell ⟨w.heap.size+1,1,none⟩ (.int .i64 n)).setCell ⟨w.heap.size+1,2,none⟩ (.string s)).setCell ⟨w.heap.size+1,3,none⟩ (.slice au l.length cu)).cell? ⟨w.heap.size+1,3,none⟩=some (.slice au l.length cu):=by go_simp
 refine bodyPost_ret (v:=xx k n s (.slice au l.length cu)) ?_ rfl ⟨_,rfl,?_,?_⟩
 ·generalize (((((w1.setCell ⟨w.heap.size+1+1,3,none⟩ (.slice au l.length cu)).setCell ⟨w.heap.size+1,0,none⟩ (.int .i64 k)).setCell ⟨w.heap.size+1,1,none⟩ (.int .i64 n)).setCell ⟨w.heap.size+1,2,none⟩ (.string s)).setCell ⟨w.heap.size+1,3,none⟩ (.slice au l.length cu))=W at f0 f1 f2 f3
  simp[results,Tryz.results124,go_sem,f0,f1,f2,f3]
 ·exact(((((HR.out.nfset (by simp) _).nfset (by simp) _).nfset (by simp) _).nfset (by simp) _).nfset (by simp) _).imp (fun b hb _=>⟨by have:=hb.1;simp at this;omega,hb.2⟩)
 ·exact(((((((Below.refl _ _).alloc (Nat.le_refl _) _).alloc (by simp) _).alloc (by simp;omega) _).trans (HB.out.mono (by simp;omega))).setCell (by simp;omega) _).setCell (by simp) _).setCell (by simp) _ |>.setCell (by simp) _ |>.setCell (by simp) _
def FilX (wr:World) (g:Nat) (e:TypeId) (l:List Ex) (k:Nat):Prop :=
 ∃ (xs:List Value) (V:Nat->Value),wr.ownsRow g e 4 (.slice (some ⟨g,0,none⟩) l.length l.length) l.length xs /\
  ∀ i (h:i<l.length),i<k->(xs[i*4]?=some (.int .i64 l[i].k)/\xs[i*4+1]?=some (.int .i64 l[i].n)/\xs[i*4+2]?=some (.string l[i].s)/\xs[i*4+3]?=some (V i))/\El wr (nf wr (g+1)) l[i].l (V i)
theorem FilX.grow {w w':World} {g:Nat} {e:TypeId} {l:List Ex} {k:Nat} (h:FilX w g e l k) (hk:Below w.heap.size w w'):FilX w' g e l k:=by
 obtain⟨xs,V,ho,hr⟩:=h;exact⟨xs,V,own_grow ho hk,fun i h1 h2=>⟨(hr i h1 h2).1,(hr i h1 h2).2.nfgrow hk⟩⟩
theorem FilX.step {w:World} {g:Nat} {e:TypeId} {l:List Ex} {k:Nat} (h:FilX w g e l k) (hk:k<l.length) {u:Value} (hu:El w (nf w (g+1)) l[k].l u) :
  FilX ((((w.setCell ⟨g,k*4,none⟩ (.int .i64 l[k].k)).setCell ⟨g,k*4+1,none⟩ (.int .i64 l[k].n)).setCell ⟨g,k*4+2,none⟩ (.string l[k].s)).setCell ⟨g,k*4+3,none⟩ u) g e l (k+1):=by
 obtain⟨xs,V,ho,hr⟩:=h;have o1:=(ho.stored (k*4) (.int .i64 l[k].k)).1;have o2:=(o1.stored (k*4+1) (.int .i64 l[k].n)).1;have o3:=(o2.stored (k*4+2) (.string l[k].s)).1;have o4:=(o3.stored (k*4+3) u).1;have hl:xs.length=l.length*4:=ho.1;refine⟨_,fun i=>if i=k then u else V i,o4,fun i hi hik=>?_⟩;have hn:g<g+1:=by omega
 by_cases he:i=k
 ·subst he
  refine⟨⟨?_,?_,?_,?_⟩,?_⟩
  ·rw[List.getElem?_set_ne (by omega),List.getElem?_set_ne (by omega),List.getElem?_set_ne (by omega),List.getElem?_set_self (by omega)]
  ·rw[List.getElem?_set_ne (by omega),List.getElem?_set_ne (by omega),List.getElem?_set_self (by simp;omega)]
  ·rw[List.getElem?_set_ne (by omega),List.getElem?_set_self (by simp;omega)]
  ·rw[List.getElem?_set_self (by simp;omega)];show some u=some (if i=i then u else V i);rw[if_pos rfl]
  ·show El _ _ _ (if i=i then u else V i)
   rw[if_pos rfl];exact(((hu.nfset hn _).nfset hn _).nfset hn _).nfset hn _
 ·obtain⟨⟨x0,xn,x1,x2⟩,x3⟩:=hr i hi (by omega)
  refine⟨⟨?_,?_,?_,?_⟩,?_⟩
  ·rw[List.getElem?_set_ne (by omega),List.getElem?_set_ne (by omega),List.getElem?_set_ne (by omega),List.getElem?_set_ne (by omega)];exact x0
  ·rw[List.getElem?_set_ne (by omega),List.getElem?_set_ne (by omega),List.getElem?_set_ne (by omega),List.getElem?_set_ne (by omega)];exact xn
  ·rw[List.getElem?_set_ne (by omega),List.getElem?_set_ne (by omega),List.getElem?_set_ne (by omega),List.getElem?_set_ne (by omega)];exact x1
  ·rw[List.getElem?_set_ne (by omega),List.getElem?_set_ne (by omega),List.getElem?_set_ne (by omega),List.getElem?_set_ne (by omega)];show xs[i*4+3]?=some (if i=k then u else V i);rw[if_neg he];exact x2
  ·show El _ _ _ (if i=k then u else V i)
   rw[if_neg he];exact(((x3.nfset hn _).nfset hn _).nfset hn _).nfset hn _
theorem FilX.rl {w:World} {g:Nat} {e:TypeId} {l:List Ex} (h:FilX w g e l l.length) (hm:l.length<=maxLen) (hs:∀ i (h:i<l.length),l[i].s.size<=maxLen) :
  El w (nf w g) l (.slice (some ⟨g,0,none⟩) l.length l.length):=by
 obtain⟨xs,V,ho,hr⟩:=h;by_cases hl:l=[]
 ·subst hl
  exact .empty _ _ (by simp) fun h=>by cases h
 ·refine .full l g 0 l.length V ⟨Nat.le_refl _,fun o=>ho.frozenAt o⟩ hl (Nat.le_refl _) hm hs (fun i hi=>?_) fun i hi=>(hr i hi hi).2.imp fun b hb _=>⟨by have:=hb.1;omega,hb.2⟩
  obtain⟨⟨x0,xn,x1,x2⟩,_⟩:=hr i hi hi;rw[Nat.zero_add];exact⟨by rw[ho.cellAt _ (by omega),x0],by rw[ho.cellAt _ (by omega),xn],by rw[ho.cellAt _ (by omega),x1],by rw[ho.cellAt _ (by omega),x2]⟩
theorem infoExpr:(Tryz.prog.info? 54).map (fun i=>(i.zero,i.size,i.bytes))=some (some (xx 0 0 ⟨#[]⟩ (.slice none 0 0)),4,56):=by kernel_rfl
theorem szx_sub (l:List Ex) (k:Nat) (h:k<l.length):szx l[k].l<=szx l:=by
 have:=szx_take l k h;have:=szx_take_le l (k+1);have:=l[k].sz_eq;omega
theorem toExprS_step (l:List Ex) (ih:∀ x∈l,ToX x.l):ToX l:=by
 intro B v w h hsz;have hS:l≠[]->∀ i (h:i<l.length),l[i].s.size<=maxLen:=by
  intro hl i hi;obtain⟨ao,cap,rfl,-⟩:=h.len;obtain⟨_,_,_,_,hel⟩:=h.elems hl;exact(hel i hi).2.2
 obtain⟨ao,cap,rfl,hl1,hl2,hl3⟩:=h.len;have hlen:=szx_length l;obtain⟨i0,hi,hz0,hz1,hz2⟩:=info_parts infoExpr;have HI:=Hid.mk ih;have HH:=Hid.mk h;have HS:=Hid.mk hS;have hln:l.length<=1048576:=by omega
 clear ih h hl2 hS;go_enter Tryz.func161,Tryz.ntmps161
 go_wp2_with (at_make;refine wpList_make_full _ rfl _ _ 49 rfl w.heap.size 54 i0 _ 4 Tryz.underlying49 hi hz0 hz1 _ _ _ _ l.length rfl rfl rfl rfl (by rw[hz2];omega) (by unfold maxLen;omega) (by simp) ?_)
 intro w1 hown hgrow;have hbel:Below w.heap.size w w1:=(Below.refl _ _).grown hgrow (Nat.le_refl _) (by simp);have hg1:w.heap.size<w1.heap.size:=(World.ownsRow.lt hown _ rfl).2;have HF:FilX w1 w.heap.size 54 l 0:=⟨_,fun _=>.bool true,hown,fun i _ h=>absurd h (Nat.not_lt_zero i)⟩;clear hgrow hown hi hz0 hz1 hz2;go_wp2;go_loopw [4] (fun i wr=>∃ (k:Nat),k<=l.length/\i=.int .i64 k/\Hid (FilX wr w.heap.size 54 l k)/\Below w.heap.size w wr/\w.heap.size<wr.heap.size) (fun i _=>l.length-(intOf i).toNat)
 case atStart=>exact⟨0,Nat.zero_le _,rfl,HF,hbel,hg1⟩
 case round =>
  obtain⟨k,hk,rfl,HFr,hbelr,hgr⟩:=hrel;clear HF hbel hg1;by_cases hkl:k<l.length
  ·obtain⟨b,off,V,rfl,hel⟩:=HH.out.elems (by intro hn;rw[hn] at hkl;simp at hkl)
   obtain⟨h3,hsub,hss⟩:=hel k hkl;have hto:ToX l[k].l:=HI.out _ (List.getElem_mem hkl);have hsk:=szx_sub l k hkl;have HST:=Hid.mk (fun(w2:World) (u:Value) (h1:FilX w2 w.heap.size 54 l k) (h2:El w2 (nf w2 (w.heap.size+1)) l[k].l u)=>h1.step hkl h2);obtain⟨t,ht⟩:∃ t,l[k]=t:=⟨_,rfl⟩;rw[ht] at h3 hsub hss hto hsk HST;clear ht hel;obtain⟨c0,cn,c1,c2⟩:=h3.kept (w':=wr) (hbelr.block b (World.block_lt_of_cell? w _ h3.1));have HC:=Hid.mk (toExpr_of t hto B (V k) wr (hsub.grow hbelr) (by omega));have hi1:(k:Int)<(l.length:Int):=(by omega);clear hsub hss hto h3 HI HH;go_wp2_with fail
   refine HC.out.mono ?_;rintro e w2 ⟨u,rfl,hr,hb2⟩;have HF2:=HFr.out.grow hb2;have H3:=Hid.mk (HST.out w2 u HF2 (hr.imp fun b hb _=>⟨by have:=hb.1;omega,hb.2⟩));have B2:=hbelr.trans (hb2.mono hbelr.size);have hg2:w.heap.size<w2.heap.size:=Nat.lt_of_lt_of_le hgr hb2.size;obtain⟨xs,V',hown2,-⟩:=HF2;have f0:=hown2.frozenAt (k*4);have f1:=hown2.frozenAt (k*4+1);have f2:=hown2.frozenAt (k*4+2);have f3:=hown2.frozenAt (k*4+3);have hxl:xs.length=l.length*4:=hown2.1;have o0:=hown2.cellAt (k*4) (by omega);have o1:=hown2.cellAt (k*4+1) (by omega);have o2:=hown2.cellAt (k*4+2) (by omega);have o3:=hown2.cellAt (k*4+3) (by omega);obtain⟨y0,e0⟩:∃ y,xs[k*4]?=some y:=⟨_,List.getElem?_eq_getElem (by omega)⟩;obtain⟨y1,e1⟩:∃ y,xs[k*4+1]?=some y:=⟨_,List.getElem?_eq_getElem (by omega)⟩;obtain⟨y2,e2⟩:∃ y,xs[k*4+2]?=some y:=⟨_,List.getElem?_eq_getElem (by omega)⟩;obtain⟨y3,e3⟩:∃ y,xs[k*4+3]?=some y:=⟨_,List.getElem?_eq_getElem (by omega)⟩;rw[e0] at o0;rw[e1] at o1;rw[e2] at o2;rw[e3] at o3;clear e0 e1 e2 e3;obtain⟨au,cu,rfl,-,-,-⟩:=hr.len;have hk0:0<l.length:=(by omega);clear hown2 HFr HC HST hb2 hbelr hr c0 c1 c2 hxl;go_wp2;go_roundw
   case rel=>exact⟨k+1,by omega,by go_num,H3,(((B2.setCell (Nat.le_refl _) _).setCell (Nat.le_refl _) _).setCell (Nat.le_refl _) _).setCell (Nat.le_refl _) _,by simpa using hg2⟩
   case measure=>simp[intOf];omega
  ·have e:k=l.length:=by omega
   subst e;have HR:=Hid.mk (fun hS=>HFr.out.rl (by unfold maxLen;omega) hS);have HR2:Hid (El wr (nf wr w.heap.size) l (.slice (some ⟨w.heap.size,0,none⟩) l.length l.length)):=HR.out (by
    intro i hi;exact HS.out (by intro hn;rw[hn] at hi;simp at hi) i hi)
   clear HR HFr HS HI HH;go_wp2;go_ret;exact⟨_,rfl,HR2.out,hbelr⟩
theorem toExprS_any (l:List Ex):ToX l:=(Ex.ind (P:=fun t=>ToX t.l) (fun t ih=>toExprS_step t.l ih) (.node 0 0 ⟨#[]⟩ l))
theorem toExprF_any (t:Ex) (B:Nat->Prop) (v:Value) (w:World) (h:El w B t.l v) (hs:szx t.l<=1048576) :
  Calls Tryz.prog 124 #[xx t.k t.n t.s v] w fun e w'=>∃ u,e=.returned (xx t.k t.n t.s u)/\El w' (nf w' (w.heap.size+1)) t.l u/\Below w.heap.size w w':=toExpr_of t (toExprS_any t.l) B v w h hs
end Go.Proofs.YtkbijjkgfojchaaGreat
