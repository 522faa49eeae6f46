/- The small functions of the laws over statements: how great one is,a copy of it,in new blocks. .. -/
import Derived.Test.YtkbijjkgfojchaaGreatQRun27
namespace Go.Proofs.YtkbijjkgfojchaaGreat
set_option maxHeartbeats 1000000
open Go.RowKit
set_option maxRecDepth 8000
mutual
def St.sz:St->Nat
 | .node _ s t x a b=>s.size+t.size+szx x+szy a+szy b
def szy:List St->Nat
 | []=>0
 | t :: r=>1+t.sz+szy r
end
theorem St.sz_eq (t:St):t.sz=t.s.size+t.t.size+szx t.x+szy t.a+szy t.b:=by cases t;rw[St.sz];rfl
theorem szy_take (l:List St) (k:Nat) (h:k<l.length):szy (l.take (k+1))=szy (l.take k)+1+l[k].sz:=by
 induction l generalizing k with
 | nil=>simp at h
 | cons t r ih =>
  cases k with
  | zero=>simp[szy]
  | succ k =>
   have:=ih k (by simpa using h);simp only[List.take_succ_cons,szy,List.getElem_cons_succ];omega
theorem szy_take_le (l:List St) (k:Nat):szy (l.take k)<=szy l:=by
 induction l generalizing k with
 | nil=>simp
 | cons t r ih =>
  cases k with
  | zero=>simp[szy]
  | succ k=>have:=ih k;simp only[List.take_succ_cons,szy];omega
theorem szy_length (l:List St):l.length<=szy l:=by
 induction l with
 | nil=>simp
 | cons t r ih=>simp only[List.length_cons,szy];omega
theorem szy_take_length (l:List St) (k:Nat) (h:k<=l.length):szy (l.take k)+(l.length-k)<=szy l:=by
 induction l generalizing k with
 | nil=>simp
 | cons t r ih =>
  cases k with
  | zero=>have:=szy_length (t :: r);simpa [szy] using this
  | succ k=>have:=ih k (by simpa using h);simp only[List.take_succ_cons,szy,List.length_cons];omega
theorem szy_mem {y:St} {l:List St} (h:y∈l):y.sz+1<=szy l:=by
 induction l with
 | nil=>cases h
 | cons t r ih =>
  rw[szy];rcases List.mem_cons.1 h with rfl | h
  ·omega
  ·have:=ih h;omega
def SzY (l:List St):Prop:=∀ (B:Nat->Prop) (v:Value) (w:World) (left:Int),Sl w B l v->0<=left->left<=1048576 ->
 Calls Tryz.prog 122 #[v,.int .i64 left] w fun e w'=>e=.returned (.int .i64 (leftOf left (szy l)))/\Below w.heap.size w w'
theorem szStmt_of (t:St) (iha:SzY t.a) (ihb:SzY t.b) (B:Nat->Prop) (vx va vb:Value) (w:World) (left:Int) (hx:El w B t.x vx) (ha:Sl w B t.a va) (hb:Sl w B t.b vb) (hs:t.s.size<=maxLen) (ht:t.t.size<=maxLen) (h0:0<=left) (h1:left<=1048576) :
  Calls Tryz.prog 160 #[st t.k t.s t.t vx va vb,.int .i64 left] w fun e w'=>e=.returned (.int .i64 (leftOf left t.sz))/\Below w.heap.size w w':=by
 have HE:=Hid.mk t.sz_eq;obtain⟨k,hk⟩:∃ k,t.k=k:=⟨_,rfl⟩;obtain⟨s,hsn⟩:∃ s,t.s=s:=⟨_,rfl⟩;obtain⟨u,hun⟩:∃ u,t.t=u:=⟨_,rfl⟩;obtain⟨x,hxn⟩:∃ x,t.x=x:=⟨_,rfl⟩;obtain⟨a,han⟩:∃ a,t.a=a:=⟨_,rfl⟩;obtain⟨b,hbn⟩:∃ b,t.b=b:=⟨_,rfl⟩;obtain⟨z,hz⟩:∃ z,t.sz=z:=⟨_,rfl⟩;rw[hk,hsn,hun,hz];rw[hsn] at hs;rw[hun] at ht;rw[hxn] at hx;rw[han] at ha iha;rw[hbn] at hb ihb;rw[hsn,hun,hxn,han,hbn,hz] at HE;clear hk hsn hun hxn han hbn hz;unfold maxLen at hs ht;have B0:Below w.heap.size w (w.alloc (.cells #[.int .i64 k,.string s,.string u,vx,va,vb] 192)):=(Below.refl _ _).alloc (Nat.le_refl _) _;obtain⟨xo,xcap,rfl,-,-,-⟩:=hx.len;obtain⟨ao,acap,rfl,-,-,-⟩:=ha.len;obtain⟨bo,bcap,rfl,-,-,-⟩:=hb.len;by_cases hlt:left<s.size
 ·have hh:left-(s.size:Int)<0:=by omega
  have HR:Hid (leftOf left z = -1):=(by show _=_;unfold leftOf;have:=HE.out;rw[if_pos (by omega)]);clear HE;go_enter Tryz.func160,Tryz.ntmps160
  go_wp2;go_ret;exact⟨ret_int' HR.out.symm,B0⟩
 by_cases hlu:left-(s.size:Int)<u.size
 ·have hh:¬ left-(s.size:Int)<0:=by omega
  have hh2:left-(s.size:Int)-(u.size:Int)<0:=(by omega);have HR:Hid (leftOf left z = -1):=(by show _=_;unfold leftOf;have:=HE.out;rw[if_pos (by omega)]);clear HE;go_enter Tryz.func160,Tryz.ntmps160
  go_wp2;go_ret;exact⟨ret_int' HR.out.symm,B0⟩
 have hh:¬ left-(s.size:Int)<0:=by omega
 have hh2:¬ left-(s.size:Int)-(u.size:Int)<0:=by omega
 obtain⟨d,hd⟩:∃ d,left-(s.size:Int)-(u.size:Int)=d:=⟨_,rfl⟩;have Hd:Hid (left-(s.size:Int)-(u.size:Int)=d):=hd;have hd0:0<=d:=by omega
 have hdm:d<=1048576:=by omega
 obtain⟨m1,Hm1⟩:∃ m,Hid (leftOf d (szx x)=m):=⟨_,rfl⟩;obtain⟨m2,Hm2⟩:∃ m,Hid (leftOf m1 (szy a)=m):=⟨_,rfl⟩;obtain⟨m3,Hm3⟩:∃ m,Hid (leftOf m2 (szy b)=m):=⟨_,rfl⟩;have HX:=Hid.mk (fun(w':World) (hb':Below w.heap.size w w')=>szExprS_any x B _ w' d (hx.grow hb') hd0 hdm);have HA:=Hid.mk (fun(w':World) (hb':Below w.heap.size w w') (c0:0<=m1) (c1:m1<=1048576)=>iha B _ w' m1 (ha.grow hb') c0 c1);have HB:=Hid.mk (fun(w':World) (hb':Below w.heap.size w w') (c0:0<=m2) (c1:m2<=1048576)=>ihb B _ w' m2 (hb.grow hb') c0 c1);rw[Hm1.out] at HX;rw[Hm2.out] at HA;rw[Hm3.out] at HB;clear hx ha hb iha ihb;rw[<- hd] at HX;clear hd hlt hlu;go_enter Tryz.func160,Tryz.ntmps160
 go_wp2_with fail
 refine(HX.out _ B0).mono ?_;rintro e w1 ⟨rfl,hb1⟩;have B1:=B0.trans (hb1.mono (by simp));have hc1:=fun o=>hb1.cell (p:=⟨w.heap.size,o,none⟩) (by simp);have hs1:=hb1.size;simp at hs1;clear B0 hb1 HX;by_cases hm1:m1<0
 ·have HR:Hid (m1 = -1/\leftOf left z = -1):=by
   show _/\_
   have e1:=Hm1.out;have e2:=HE.out;have e3:=Hd.out;unfold leftOf at e1 |-;split at e1 <;> split <;> omega
  clear HE Hm1 Hm2 Hm3 Hd HA HB;go_wp2;go_ret;exact⟨ret_int' HR.out.2.symm,B1⟩
 have c0:0<=m1:=by omega
 have c1:m1<=d:=by have e1:=Hm1.out;unfold leftOf at e1;split at e1 <;> omega
 go_wp2_with fail
 refine(HA.out _ B1 c0 (by omega)).mono ?_;rintro e w2 ⟨rfl,hb2⟩;have B2:=B1.trans (hb2.mono (by omega));have hc2:∀ o,w2.cell? ⟨w.heap.size,o,none⟩=w1.cell? ⟨w.heap.size,o,none⟩:=fun o=>hb2.cell (p:=⟨w.heap.size,o,none⟩) (by simp;omega);have hs2:=Nat.le_trans hs1 hb2.size;clear B1 hb2 HA;by_cases hm2:m2<0
 ·have HR:Hid (m2 = -1/\leftOf left z = -1):=by
   show _/\_
   have e1:=Hm1.out;have e2:=HE.out;have e3:=Hd.out;have e4:=Hm2.out;unfold leftOf at e1 e4 |-;split at e1 <;> split at e4 <;> split <;> omega
  clear HE Hm1 Hm2 Hm3 Hd HB;go_wp2;go_ret;exact⟨ret_int' HR.out.2.symm,B2⟩
 have d0:0<=m2:=by omega
 have d2:m2<=m1:=by have e1:=Hm2.out;unfold leftOf at e1;split at e1 <;> omega
 go_wp2_with fail
 refine(HB.out _ B2 d0 (by omega)).mono ?_;rintro e w3 ⟨rfl,hb3⟩;have B3:=B2.trans (hb3.mono (by omega));clear B2 hb3 HB;have HR:Hid ((m3<0->leftOf left z = -1)/\(¬ m3<0->leftOf left z=m3)):=by
  show _/\_
  have e1:=Hm1.out;have e2:=HE.out;have e3:=Hd.out;have e4:=Hm2.out;have e5:=Hm3.out;unfold leftOf at e1 e4 e5 |-;split at e1 <;> split at e4 <;> split at e5 <;> split <;> constructor <;> omega
 clear HE Hm1 Hm2 Hm3 Hd;by_cases hm3:m3<0
 ·go_wp2
  go_ret;exact⟨ret_int' (HR.out.1 hm3).symm,B3⟩
 ·go_wp2
  go_ret;exact⟨ret_int' (HR.out.2 hm3).symm,B3⟩
theorem szStmtS_step (l:List St) (ih:∀ x∈l,SzY x.a/\SzY x.b):SzY l:=by
 intro B v w left h h0 h1;obtain⟨ao,cap,rfl,hl1,hl2,hl3⟩:=h.len;have hm:cap<=9223372036854775807:=by unfold maxLen at hl2;omega
 have hlen:=szy_length l;by_cases hlt:left<l.length
 ·have hh:left-(l.length:Int)<0:=by omega
  have HR:Hid (leftOf left (szy l) = -1):=(by show _=_;unfold leftOf;rw[if_pos (by omega)]);clear h ih hl2 hlen;go_enter Tryz.func122,Tryz.ntmps122
  go_wp2;go_ret;exact⟨ret_int' HR.out.symm,Below.refl _ _⟩
 ·have hh:¬ left-(l.length:Int)<0:=by omega
  have HI:=Hid.mk ih;have HH:=Hid.mk h;have HL:=Hid.mk hlen;clear ih h hl2 hlen;go_enter Tryz.func122,Tryz.ntmps122
  go_wp2;go_loopw [1,5] (fun q i wr=>∃ (k:Nat) (r:Int),k<=l.length/\i=.int .i64 k/\q=.int .i64 r/\0<=r/\r<=1048576/\Hid (r=left-(l.length:Int)-(szy (l.take k):Int)+(k:Int))/\Below w.heap.size w wr) (fun _ i _=>l.length-(intOf i).toNat)
  case atStart=>exact⟨0,left-(l.length:Int),Nat.zero_le _,rfl,rfl,by omega,by omega,by show _=_;simp[szy],Below.refl _ _⟩
  case round =>
   obtain⟨k,r,hk,rfl,rfl,r0,r1,Hr,hbel⟩:=hrel;by_cases hkl:k<l.length
   ·obtain⟨b,off,X,Y,Z,rfl,hel⟩:=HH.out.elems (by intro hn;rw[hn] at hkl;simp at hkl)
    obtain⟨h3,hx,ha,hz,hss,htt⟩:=hel k hkl;have HE:=Hid.mk (szy_take l k hkl);have HT:=Hid.mk (szy_take_le l (k+1));have HZ:=Hid.mk (szy_take_length l (k+1) hkl);have hsz:=HI.out _ (List.getElem_mem hkl);obtain⟨t,ht⟩:∃ t,l[k]=t:=⟨_,rfl⟩;rw[ht] at h3 hx ha hz hss htt HE hsz;clear ht hel;obtain⟨c0,c1,c2,c3,c4,c5⟩:=h3.kept (w':=wr) (hbel.block b (World.block_lt_of_cell? w _ h3.1));have HC:=Hid.mk (szStmt_of t hsz.1 hsz.2 B (X k) (Y k) (Z k) wr r (hx.grow hbel) (ha.grow hbel) (hz.grow hbel) hss htt r0 r1);have hi1:(k:Int)<(l.length:Int):=(by omega);obtain⟨m,Hm⟩:∃ m,Hid (leftOf r t.sz=m):=⟨_,rfl⟩;rw[Hm.out] at HC;clear hx ha hz hss htt hsz h3;by_cases hm:m<0
    ·have HR:Hid (leftOf left (szy l) = -1):=by
      show _=_
      have e1:=Hm.out;have e2:=Hr.out;have e3:=HE.out;have e5:=HZ.out;unfold leftOf at e1 |-;split at e1 <;> split <;> omega
     clear HE HT Hr Hm HZ;go_wp2_with fail
     refine HC.out.mono ?_;rintro e w1 ⟨rfl,hb1⟩;have B1:=hbel.trans (hb1.mono hbel.size);clear hb1 HC;go_wp2;go_ret;exact⟨ret_int' HR.out.symm,B1⟩
    ·have HR:Hid (m=left-(l.length:Int)-(szy (l.take (k+1)):Int)+((k+1:Nat):Int)):=by
      show _=_
      have e1:=Hm.out;have e2:=Hr.out;have e3:=HE.out;unfold leftOf at e1;split at e1 <;> omega
     have hm1:m<=1048576:=by
      have e1:=Hm.out;unfold leftOf at e1;split at e1 <;> omega
     clear HE HT Hr Hm HZ;go_wp2_with fail
     refine HC.out.mono ?_;rintro e w1 ⟨rfl,hb1⟩;have B1:=hbel.trans (hb1.mono hbel.size);clear hb1 HC;go_wp2;go_roundw
     case rel=>exact⟨k+1,m,by omega,by go_num,rfl,by omega,hm1,HR,B1⟩
     case measure=>simp[intOf];omega
   ·have e:k=l.length:=by omega
    subst e;have HR:Hid (r=leftOf left (szy l)):=by
     show _=_
     have e2:=Hr.out;rw[List.take_length] at e2;unfold leftOf;split <;> omega
    clear Hr;go_wp2;go_ret;exact⟨ret_int' HR.out,hbel⟩
theorem szStmtS_any (l:List St):SzY l:=(St.ind (P:=fun t=>SzY t.a/\SzY t.b) (fun t iha ihb=>⟨szStmtS_step t.a iha,szStmtS_step t.b ihb⟩) (.node 0 ⟨#[]⟩ ⟨#[]⟩ [] l [])).1
theorem Sl.nfgrow {w w':World} {n:Nat} {l:List St} {v:Value} (h:Sl w (nf w n) l v) (hk:Below w.heap.size w w'):Sl w' (nf w' n) l v :=
 (h.imp (C:=nf w' n) fun b hb hlt=>⟨hb.1,fun o=>by rw[hk.frozen (p:=⟨b,o,none⟩) hlt];exact hb.2 o⟩).grow hk
theorem Sl.nfset {w:World} {n:Nat} {l:List St} {v:Value} (h:Sl w (nf w n) l v) {a:Addr} (ha:a.block<n) (u:Value):Sl (w.setCell a u) (nf (w.setCell a u) n) l v :=
 (h.setCell (fun hb=>by have:=hb.1;omega) u).imp fun b hb _=>⟨hb.1,fun o=>by rw[World.frozen?_setCell];exact hb.2 o⟩
def ToY (l:List St):Prop:=∀ (B:Nat->Prop) (v:Value) (w:World),Sl w B l v->szy l<=1048576 ->
 Calls Tryz.prog 125 #[v] w fun e w'=>∃ u,e=.returned u/\Sl w' (nf w' w.heap.size) l u/\Below w.heap.size w w'
theorem toStmt_of (t:St) (iha:ToY t.a) (ihb:ToY t.b) (B:Nat->Prop) (vx va vb:Value) (w:World) (hx:El w B t.x vx) (ha:Sl w B t.a va) (hb:Sl w B t.b vb) (hs:t.sz<=1048576) :
  Calls Tryz.prog 162 #[st t.k t.s t.t vx va vb] w fun e w'=>∃ ux ua ub,e=.returned (st t.k t.s t.t ux ua ub)/\El w' (nf w' (w.heap.size+1)) t.x ux/\Sl w' (nf w' (w.heap.size+1)) t.a ua/\Sl w' (nf w' (w.heap.size+1)) t.b ub/\Below w.heap.size w w':=by
 have hsz:=t.sz_eq;obtain⟨k,hk⟩:∃ k,t.k=k:=⟨_,rfl⟩;obtain⟨s,hsn⟩:∃ s,t.s=s:=⟨_,rfl⟩;obtain⟨u,hun⟩:∃ u,t.t=u:=⟨_,rfl⟩;obtain⟨x,hxn⟩:∃ x,t.x=x:=⟨_,rfl⟩;obtain⟨a,han⟩:∃ a,t.a=a:=⟨_,rfl⟩;obtain⟨b,hbn⟩:∃ b,t.b=b:=⟨_,rfl⟩;rw[hk,hsn,hun,hxn,han,hbn];rw[hxn] at hx;rw[han] at ha iha;rw[hbn] at hb ihb;rw[hsn,hun,hxn,han,hbn] at hsz;have HX:=Hid.mk (fun(w':World) (hb':Below w.heap.size w w')=>toExprS_any x B _ w' (hx.grow hb') (by omega));have HA:=Hid.mk (fun(w':World) (hb':Below w.heap.size w w')=>iha B _ w' (ha.grow hb') (by omega));have HB:=Hid.mk (fun(w':World) (hb':Below w.heap.size w w')=>ihb B _ w' (hb.grow hb') (by omega));obtain⟨xo,xcap,rfl,-,-,-⟩:=hx.len;obtain⟨ao,acap,rfl,-,-,-⟩:=ha.len;obtain⟨bo,bcap,rfl,-,-,-⟩:=hb.len;clear hk hsn hun hxn han hbn hsz hs hx ha hb iha ihb;go_enter Tryz.func162,Tryz.ntmps162
 go_wp2_with fail
 refine(HX.out _ ?_).mono ?_
 ·exact((((Below.refl _ _).alloc (Nat.le_refl _) _).alloc (by simp) _).alloc (by simp <;> omega) _)
 rintro e w1 ⟨ux,rfl,hrx,hb1⟩;have ha1:=fun o=>hb1.cell (p:=⟨w.heap.size,o,none⟩) (by simp <;> omega);have hc1:=fun o=>hb1.cell (p:=⟨w.heap.size+1,o,none⟩) (by simp);have hd1:=fun o=>hb1.cell (p:=⟨w.heap.size+1+1,o,none⟩) (by simp);have hf1:=fun o=>hb1.frozen (p:=⟨w.heap.size+1,o,none⟩) (by simp);have hg1:=fun o=>hb1.frozen (p:=⟨w.heap.size+1+1,o,none⟩) (by simp);obtain⟨xa,xc,rfl,-,-,-⟩:=hrx.len;have s1:w.heap.size+3<=w1.heap.size:=by have:=hb1.size;simp at this;omega
 have B1:Hid (Below w.heap.size w w1):=((((Below.refl _ _).alloc (Nat.le_refl _) _).alloc (by simp) _).alloc (by simp <;> omega) _).trans (hb1.mono (by simp <;> omega));have HRX:=Hid.mk (hrx.imp (C:=nf w1 (w.heap.size+3)) fun b hb _=>⟨by have:=hb.1;simp at this;omega,hb.2⟩);clear hrx hb1 HX;go_wp2_with fail
 refine(HA.out _ (B1.out.setCell (by simp <;> omega) _)).mono ?_;rintro e w2 ⟨ua,rfl,hra,hb2⟩;have ha2:=fun o=>hb2.cell (p:=⟨w.heap.size,o,none⟩) (by simp <;> omega);have hc2:=fun o=>hb2.cell (p:=⟨w.heap.size+1,o,none⟩) (by simp <;> omega);have hd2:=fun o=>hb2.cell (p:=⟨w.heap.size+1+1,o,none⟩) (by simp <;> omega);have hf2:=fun o=>hb2.frozen (p:=⟨w.heap.size+1,o,none⟩) (by simp <;> omega);have hg2:=fun o=>hb2.frozen (p:=⟨w.heap.size+1+1,o,none⟩) (by simp <;> omega);obtain⟨aa,ac,rfl,-,-,-⟩:=hra.len;have s2:w.heap.size+3<=w2.heap.size:=by have:=hb2.size;simp at this;omega
 have B2:Hid (Below w.heap.size w w2):=(B1.out.setCell (by simp <;> omega) _).trans (hb2.mono (by simp <;> omega));have HRX2:=Hid.mk ((HRX.out.nfset (a:=⟨w.heap.size+1+1,3,none⟩) (by simp <;> omega) (.slice xa x.length xc)).nfgrow hb2);have HRA:=Hid.mk (hra.imp (C:=nf w2 (w.heap.size+3)) fun b hb _=>⟨by have:=hb.1;simp at this;omega,hb.2⟩);clear hra hb2 HA HRX B1;go_wp2_with fail
 refine(HB.out _ (B2.out.setCell (by simp <;> omega) _)).mono ?_;rintro e w3 ⟨ub,rfl,hrb,hb3⟩;have hc3:=fun o=>hb3.cell (p:=⟨w.heap.size+1,o,none⟩) (by simp <;> omega);have hd3:=fun o=>hb3.cell (p:=⟨w.heap.size+1+1,o,none⟩) (by simp <;> omega);have hf3:=fun o=>hb3.frozen (p:=⟨w.heap.size+1,o,none⟩) (by simp <;> omega);have hg3:=fun o=>hb3.frozen (p:=⟨w.heap.size+1+1,o,none⟩) (by simp <;> omega);obtain⟨ba,bc,rfl,-,-,-⟩:=hrb.len;have s3:w.heap.size+3<=w3.heap.size:=by have:=hb3.size;simp at this;omega
 have B3:Hid (Below w.heap.size w w3):=(B2.out.setCell (by simp <;> omega) _).trans (hb3.mono (by simp <;> omega));have HRX3:=Hid.mk ((HRX2.out.nfset (a:=⟨w.heap.size+1+1,4,none⟩) (by simp <;> omega) (.slice aa a.length ac)).nfgrow hb3);have HRA3:=Hid.mk ((HRA.out.nfset (a:=⟨w.heap.size+1+1,4,none⟩) (by simp <;> omega) (.slice aa a.length ac)).nfgrow hb3);have HRB:=Hid.mk (hrb.imp (C:=nf w3 (w.heap.size+3)) fun b hb _=>⟨by have:=hb.1;simp at this;omega,hb.2⟩);clear hrb hb3 HB HRX2 HRA B2;have v0:w3.cell? ⟨w.heap.size+1+1,0,none⟩=some (.int .i64 k):=by go_simp
 have v1:w3.cell? ⟨w.heap.size+1+1,1,none⟩=some (.string s):=by go_simp
 have v2:w3.cell? ⟨w.heap.size+1+1,2,none⟩=some (.string u):=by go_simp
 have v3:w3.cell? ⟨w.heap.size+1+1,3,none⟩=some (.slice xa x.length xc):=by go_simp
 have v4:w3.cell? ⟨w.heap.size+1+1,4,none⟩=some (.slice aa a.length ac):=by go_simp
 have v5:w3.cell? ⟨w.heap.size+1+1,5,none⟩=some (.slice none 0 0):=by go_simp
 have r0:w3.cell? ⟨w.heap.size+1,0,none⟩=some (.int .i64 0):=by go_simp
 have r1:w3.cell? ⟨w.heap.size+1,1,none⟩=some (.string ⟨#[]⟩):=by go_simp
 have r2:w3.cell? ⟨w.heap.size+1,2,none⟩=some (.string ⟨#[]⟩):=by go_simp
 have r3:w3.cell? ⟨w.heap.size+1,3,none⟩=some (.slice none 0 0):=by go_simp
 have r4:w3.cell? ⟨w.heap.size+1,4,none⟩=some (.slice none 0 0):=by go_simp
 have r5:w3.cell? ⟨w.heap.size+1,5,none⟩=some (.slice none 0 0):=by go_simp
 have q1:∀ o,w3.frozen? ⟨w.heap.size+1,o,none⟩=false:=by intro o;go_simp
 have q2:∀ o,w3.frozen? ⟨w.heap.size+1+1,o,none⟩=false:=by intro o;go_simp
 clear ha1 hc1 hd1 hf1 hg1 ha2 hc2 hd2 hf2 hg2 hc3 hd3 hf3 hg3 s1 s2;go_wp2;have f0:(((((((w3.setCell ⟨w.heap.size+1+1,5,none⟩ (.slice ba b.length bc)).setCell ⟨w.heap.size+1,0,none⟩ (.int .i64 k)).setCell ⟨w.heap.size+1,1,none⟩ (.string s)).setCell ⟨w.heap.size+1,2,none⟩ (.string u)).setCell ⟨w.heap.size+1,3,none⟩ (.slice xa x.length xc)).setCell ⟨w.heap.size+1,4,none⟩ (.slice aa a.length ac)).setCell ⟨w.heap.size+1,5,none⟩ (.slice ba b.length bc)).cell? ⟨w.heap.size+1,0,none⟩=some (.int .i64 k):=by go_simp
 have f1:(((((((w3.setCell ⟨w.heap.size+1+1,5,none⟩ (.slice ba b.length bc)).setCell ⟨w.heap.size+1,0,none⟩ (.int .i64 k)).setCell ⟨w.heap.size+1,1,none⟩ (.string s)).setCell ⟨w.heap.size+1,2,none⟩ (.string u)).setCell ⟨w.heap.size+1,3,none⟩ (.slice xa x.length xc)).setCell ⟨w.heap.size+1,4,none⟩ (.slice aa a.length ac)).setCell ⟨w.heap.size+1,5,none⟩ (.slice ba b.length bc)).cell? ⟨w.heap.size+1,1,none⟩=some (.string s):=by go_simp
 have f2:(((((((w3.setCell ⟨w.heap.size+1+1,5,none⟩ (.slice ba b.length bc)).setCell ⟨w.heap.size+1,0,none⟩ (.int .i64 k)).setCell ⟨w.heap.size+1,1,none⟩ (.string s)).setCell ⟨w.heap.size+1,2,none⟩ (.string u)).setCell ⟨w.heap.size+1,3,none⟩ (.slice xa x.length xc)).setCell ⟨w.heap.size+1,4,none⟩ (.slice aa a.length ac)).setCell ⟨w.heap.size+1,5,none⟩ (.slice ba b.length bc)).cell? ⟨w.heap.size+1,2,none⟩=some (.string u):=by go_simp
 have f3:(((((((w3.setCell ⟨w.heap.size+1+1,5,none⟩ (.slice ba b.length bc)).setCell ⟨w.heap.size+1,0,none⟩ (.int .i64 k)).setCell ⟨w.heap.size+1,1,none⟩ (.string s)).setCell ⟨w.heap.size+1,2,none⟩ (.string u)).setCell ⟨w.heap.size+1,3,none⟩ (.slice xa x.length xc)).setCell ⟨w.heap.size+1,4,none⟩ (.slice aa a.length ac)).setCell ⟨w.heap.size+1,5,none⟩ (.slice ba b.length bc)).cell? ⟨w.heap.size+1,3,none⟩=some (.slice xa x.length xc):=by go_simp
 have f4:(((((((w3.setCell ⟨w.heap.size+1+1,5,none⟩ (.slice ba b.length bc)).setCell ⟨w.heap.size+1,0,none⟩ (.int .i64 k)).setCell ⟨w.heap.size+1,1,none⟩ (.string s)).setCell ⟨w.heap.size+1,2,none⟩ (.string u)).setCell ⟨w.heap.size+1,3,none⟩ (.slice xa x.length xc)).setCell ⟨w.heap.size+1,4,none⟩ (.slice aa a.length ac)).setCell ⟨w.heap.size+1,5,none⟩ (.slice ba b.length bc)).cell? ⟨w.heap.size+1,4,none⟩=some (.slice aa a.length ac):=by go_simp
 have f5:(((((((w3.setCell ⟨w.heap.size+1+1,5,none⟩ (.slice ba b.length bc)).setCell ⟨w.heap.size+1,0,none⟩ (.int .i64 k)).setCell ⟨w.heap.size+1,1,none⟩ (.string s)).setCell ⟨w.heap.size+1,2,none⟩ (.string u)).setCell ⟨w.heap.size+1,3,none⟩ (.slice xa x.length xc)).setCell ⟨w.heap.size+1,4,none⟩ (.slice aa a.length ac)).setCell ⟨w.heap.size+1,5,none⟩ (.slice ba b.length bc)).cell? ⟨w.heap.size+1,5,none⟩=some (.slice ba b.length bc):=by go_simp
 refine bodyPost_ret (v:=st k s u (.slice xa x.length xc) (.slice aa a.length ac) (.slice ba b.length bc)) ?_ rfl ⟨_,_,_,rfl,?_,?_,?_,?_⟩
 ·generalize (((((((w3.setCell ⟨w.heap.size+1+1,5,none⟩ (.slice ba b.length bc)).setCell ⟨w.heap.size+1,0,none⟩ (.int .i64 k)).setCell ⟨w.heap.size+1,1,none⟩ (.string s)).setCell ⟨w.heap.size+1,2,none⟩ (.string u)).setCell ⟨w.heap.size+1,3,none⟩ (.slice xa x.length xc)).setCell ⟨w.heap.size+1,4,none⟩ (.slice aa a.length ac)).setCell ⟨w.heap.size+1,5,none⟩ (.slice ba b.length bc))=W at f0 f1 f2 f3 f4 f5
  simp[results,Tryz.results162,go_sem,f0,f1,f2,f3,f4,f5]
 ·exact(((((((HRX3.out.nfset (by simp <;> omega) _).nfset (by simp <;> omega) _).nfset (by simp <;> omega) _).nfset (by simp <;> omega) _).nfset (by simp <;> omega) _).nfset (by simp <;> omega) _).nfset (by simp <;> omega) _).imp (fun b hb _=>⟨by have:=hb.1;omega,hb.2⟩)
 ·exact(((((((HRA3.out.nfset (by simp <;> omega) _).nfset (by simp <;> omega) _).nfset (by simp <;> omega) _).nfset (by simp <;> omega) _).nfset (by simp <;> omega) _).nfset (by simp <;> omega) _).nfset (by simp <;> omega) _).imp (fun b hb _=>⟨by have:=hb.1;omega,hb.2⟩)
 ·exact(((((((HRB.out.nfset (by simp <;> omega) _).nfset (by simp <;> omega) _).nfset (by simp <;> omega) _).nfset (by simp <;> omega) _).nfset (by simp <;> omega) _).nfset (by simp <;> omega) _).nfset (by simp <;> omega) _).imp (fun b hb _=>⟨by have:=hb.1;omega,hb.2⟩)
 ·exact(((((((B3.out.setCell (by simp <;> omega) _).setCell (by simp <;> omega) _).setCell (by simp <;> omega) _).setCell (by simp <;> omega) _).setCell (by simp <;> omega) _).setCell (by simp <;> omega) _).setCell (by simp <;> omega) _)
def FilY (wr:World) (g:Nat) (e:TypeId) (l:List St) (k:Nat):Prop :=
 ∃ (xs:List Value) (X Y Z:Nat->Value),wr.ownsRow g e 6 (.slice (some ⟨g,0,none⟩) l.length l.length) l.length xs /\
  ∀ i (h:i<l.length),i<k->(xs[i*6]?=some (.int .i64 l[i].k)/\xs[i*6+1]?=some (.string l[i].s)/\xs[i*6+2]?=some (.string l[i].t)/\xs[i*6+3]?=some (X i)/\xs[i*6+4]?=some (Y i)/\xs[i*6+5]?=some (Z i))/\El wr (nf wr (g+1)) l[i].x (X i)/\Sl wr (nf wr (g+1)) l[i].a (Y i)/\Sl wr (nf wr (g+1)) l[i].b (Z i)
theorem FilY.grow {w w':World} {g:Nat} {e:TypeId} {l:List St} {k:Nat} (h:FilY w g e l k) (hk:Below w.heap.size w w'):FilY w' g e l k:=by
 obtain⟨xs,X,Y,Z,ho,hr⟩:=h;exact⟨xs,X,Y,Z,own_grow ho hk,fun i h1 h2=>⟨(hr i h1 h2).1,(hr i h1 h2).2.1.nfgrow hk,(hr i h1 h2).2.2.1.nfgrow hk,(hr i h1 h2).2.2.2.nfgrow hk⟩⟩
abbrev set6 (w:World) (g o:Nat) (k:Int) (s t:ByteArray) (x y z:Value):World :=
 (((((w.setCell ⟨g,o,none⟩ (.int .i64 k)).setCell ⟨g,o+1,none⟩ (.string s)).setCell ⟨g,o+2,none⟩ (.string t)).setCell ⟨g,o+3,none⟩ x).setCell ⟨g,o+4,none⟩ y).setCell ⟨g,o+5,none⟩ z
theorem El.nfset6 {w:World} {g n:Nat} {l:List Ex} {v:Value} (h:El w (nf w n) l v) (hn:g<n) (o:Nat) (k:Int) (s t:ByteArray) (x y z:Value):El (set6 w g o k s t x y z) (nf (set6 w g o k s t x y z) n) l v :=
 (((((h.nfset hn _).nfset hn _).nfset hn _).nfset hn _).nfset hn _).nfset hn _
theorem Sl.nfset6 {w:World} {g n:Nat} {l:List St} {v:Value} (h:Sl w (nf w n) l v) (hn:g<n) (o:Nat) (k:Int) (s t:ByteArray) (x y z:Value):Sl (set6 w g o k s t x y z) (nf (set6 w g o k s t x y z) n) l v :=
 (((((h.nfset hn _).nfset hn _).nfset hn _).nfset hn _).nfset hn _).nfset hn _
theorem set6_list {xs:List Value} {o j:Nat} (v0 v1 v2 v3 v4 v5:Value) (h:j<o\/o+5<j) :
  ((((((xs.set o v0).set (o+1) v1).set (o+2) v2).set (o+3) v3).set (o+4) v4).set (o+5) v5)[j]?=xs[j]?:=by
 rw[List.getElem?_set_ne (by omega),List.getElem?_set_ne (by omega),List.getElem?_set_ne (by omega),List.getElem?_set_ne (by omega),List.getElem?_set_ne (by omega),List.getElem?_set_ne (by omega)]
theorem set6_at {xs:List Value} {o:Nat} (v0 v1 v2 v3 v4 v5:Value) (h:o+5<xs.length) :
  ((((((xs.set o v0).set (o+1) v1).set (o+2) v2).set (o+3) v3).set (o+4) v4).set (o+5) v5)[o]?=some v0 /\
  ((((((xs.set o v0).set (o+1) v1).set (o+2) v2).set (o+3) v3).set (o+4) v4).set (o+5) v5)[o+1]?=some v1 /\
  ((((((xs.set o v0).set (o+1) v1).set (o+2) v2).set (o+3) v3).set (o+4) v4).set (o+5) v5)[o+2]?=some v2 /\
  ((((((xs.set o v0).set (o+1) v1).set (o+2) v2).set (o+3) v3).set (o+4) v4).set (o+5) v5)[o+3]?=some v3 /\
  ((((((xs.set o v0).set (o+1) v1).set (o+2) v2).set (o+3) v3).set (o+4) v4).set (o+5) v5)[o+4]?=some v4 /\
  ((((((xs.set o v0).set (o+1) v1).set (o+2) v2).set (o+3) v3).set (o+4) v4).set (o+5) v5)[o+5]?=some v5:=by
 refine⟨?_,?_,?_,?_,?_,?_⟩
 ·rw[List.getElem?_set_ne (by omega),List.getElem?_set_ne (by omega),List.getElem?_set_ne (by omega),List.getElem?_set_ne (by omega),List.getElem?_set_ne (by omega),List.getElem?_set_self (by omega)]
 ·rw[List.getElem?_set_ne (by omega),List.getElem?_set_ne (by omega),List.getElem?_set_ne (by omega),List.getElem?_set_ne (by omega),List.getElem?_set_self (by simp;omega)]
 ·rw[List.getElem?_set_ne (by omega),List.getElem?_set_ne (by omega),List.getElem?_set_ne (by omega),List.getElem?_set_self (by simp;omega)]
 ·rw[List.getElem?_set_ne (by omega),List.getElem?_set_ne (by omega),List.getElem?_set_self (by simp;omega)]
 ·rw[List.getElem?_set_ne (by omega),List.getElem?_set_self (by simp;omega)]
 ·rw[List.getElem?_set_self (by simp;omega)]
theorem FilY.step {w:World} {g:Nat} {e:TypeId} {l:List St} {k:Nat} (h:FilY w g e l k) (hk:k<l.length) {ux ua ub:Value} (hx:El w (nf w (g+1)) l[k].x ux) (ha:Sl w (nf w (g+1)) l[k].a ua) (hb:Sl w (nf w (g+1)) l[k].b ub) :
  FilY (set6 w g (k*6) l[k].k l[k].s l[k].t ux ua ub) g e l (k+1):=by
 obtain⟨xs,X,Y,Z,ho,hr⟩:=h;have o1:=(ho.stored (k*6) (.int .i64 l[k].k)).1;have o2:=(o1.stored (k*6+1) (.string l[k].s)).1;have o3:=(o2.stored (k*6+2) (.string l[k].t)).1;have o4:=(o3.stored (k*6+3) ux).1;have o5:=(o4.stored (k*6+4) ua).1;have o6:=(o5.stored (k*6+5) ub).1;have hl:xs.length=l.length*6:=ho.1;refine⟨_,fun i=>if i=k then ux else X i,fun i=>if i=k then ua else Y i,fun i=>if i=k then ub else Z i,o6,fun i hi hik=>?_⟩;have hn:g<g+1:=by omega
 by_cases he:i=k
 ·subst he
  simp only[if_true];exact⟨set6_at _ _ _ _ _ _ (by omega),hx.nfset6 hn _ _ _ _ _ _ _,ha.nfset6 hn _ _ _ _ _ _ _,hb.nfset6 hn _ _ _ _ _ _ _⟩
 ·obtain⟨⟨x0,x1,x2,x3,x4,x5⟩,y1,y2,y3⟩:=hr i hi (by omega)
  simp only[if_neg he];exact⟨⟨by rw[set6_list _ _ _ _ _ _ (by omega)];exact x0,by rw[set6_list _ _ _ _ _ _ (by omega)];exact x1,by rw[set6_list _ _ _ _ _ _ (by omega)];exact x2,by rw[set6_list _ _ _ _ _ _ (by omega)];exact x3,by rw[set6_list _ _ _ _ _ _ (by omega)];exact x4,by rw[set6_list _ _ _ _ _ _ (by omega)];exact x5⟩,y1.nfset6 hn _ _ _ _ _ _ _,y2.nfset6 hn _ _ _ _ _ _ _,y3.nfset6 hn _ _ _ _ _ _ _⟩
theorem FilY.sl {w:World} {g:Nat} {e:TypeId} {l:List St} (h:FilY w g e l l.length) (hm:l.length<=maxLen) (hs:∀ i (h:i<l.length),l[i].s.size<=maxLen/\l[i].t.size<=maxLen) :
  Sl w (nf w g) l (.slice (some ⟨g,0,none⟩) l.length l.length):=by
 obtain⟨xs,X,Y,Z,ho,hr⟩:=h;by_cases hl:l=[]
 ·subst hl
  exact .empty _ _ (by simp) fun h=>by cases h
 ·refine .full l g 0 l.length X Y Z ⟨Nat.le_refl _,fun o=>ho.frozenAt o⟩ hl (Nat.le_refl _) hm hs (fun i hi=>?_) (fun i hi=>(hr i hi hi).2.1.imp fun b hb _=>⟨by have:=hb.1;omega,hb.2⟩) (fun i hi=>(hr i hi hi).2.2.1.imp fun b hb _=>⟨by have:=hb.1;omega,hb.2⟩) (fun i hi=>(hr i hi hi).2.2.2.imp fun b hb _=>⟨by have:=hb.1;omega,hb.2⟩)
  obtain⟨⟨x0,x1,x2,x3,x4,x5⟩,_⟩:=hr i hi hi;rw[Nat.zero_add];exact⟨by rw[ho.cellAt _ (by omega),x0],by rw[ho.cellAt _ (by omega),x1],by rw[ho.cellAt _ (by omega),x2],by rw[ho.cellAt _ (by omega),x3],by rw[ho.cellAt _ (by omega),x4],by rw[ho.cellAt _ (by omega),x5]⟩
theorem infoStmt:(Tryz.prog.info? 52).map (fun i=>(i.zero,i.size,i.bytes))=some (some (st 0 ⟨#[]⟩ ⟨#[]⟩ (.slice none 0 0) (.slice none 0 0) (.slice none 0 0)),6,112):=by kernel_rfl
theorem toStmtS_step (l:List St) (ih:∀ x∈l,ToY x.a/\ToY x.b):ToY l:=by
 intro B v w h hsz;have hS:l≠[]->∀ i (h:i<l.length),l[i].s.size<=maxLen/\l[i].t.size<=maxLen:=by
  intro hl i hi;obtain⟨ao,cap,rfl,-⟩:=h.len;obtain⟨_,_,_,_,_,_,hel⟩:=h.elems hl;exact(hel i hi).2.2.2.2
 obtain⟨ao,cap,rfl,hl1,hl2,hl3⟩:=h.len;have hlen:=szy_length l;obtain⟨i0,hi,hz0,hz1,hz2⟩:=info_parts infoStmt;have HI:=Hid.mk ih;have HH:=Hid.mk h;have HS:=Hid.mk hS;have hln:l.length<=1048576:=by omega
 clear ih h hl2 hS;go_enter Tryz.func125,Tryz.ntmps125
 go_wp2_with (at_make;refine wpList_make_full _ rfl _ _ 50 rfl w.heap.size 52 i0 _ 6 Tryz.underlying50 hi hz0 hz1 _ _ _ _ l.length rfl rfl rfl rfl (by rw[hz2];omega) (by unfold maxLen;omega) (by simp) ?_)
 intro w1 hown hgrow;have hbel:Below w.heap.size w w1:=(Below.refl _ _).grown hgrow (Nat.le_refl _) (by simp);have hg1:w.heap.size<w1.heap.size:=(World.ownsRow.lt hown _ rfl).2;have HF:FilY w1 w.heap.size 52 l 0:=⟨_,fun _=>.bool true,fun _=>.bool true,fun _=>.bool true,hown,fun i _ h=>absurd h (Nat.not_lt_zero i)⟩;clear hgrow hown hi hz0 hz1 hz2;go_wp2;go_loopw [4] (fun i wr=>∃ (k:Nat),k<=l.length/\i=.int .i64 k/\Hid (FilY wr w.heap.size 52 l k)/\Below w.heap.size w wr/\w.heap.size<wr.heap.size) (fun i _=>l.length-(intOf i).toNat)
 case atStart=>exact⟨0,Nat.zero_le _,rfl,HF,hbel,hg1⟩
 case round =>
  obtain⟨k,hk,rfl,HFr,hbelr,hgr⟩:=hrel;clear HF hbel hg1;by_cases hkl:k<l.length
  ·obtain⟨b,off,X,Y,Z,rfl,hel⟩:=HH.out.elems (by intro hn;rw[hn] at hkl;simp at hkl)
   obtain⟨h3,hx,ha,hz,hss,htt⟩:=hel k hkl;have hto:=HI.out _ (List.getElem_mem hkl);have hsk:l[k].sz<=1048576:=(by have:=szy_mem (List.getElem_mem hkl);omega);have HST:=Hid.mk (fun(w2:World) (ux ua ub:Value) (h1:FilY w2 w.heap.size 52 l k) (h2:El w2 (nf w2 (w.heap.size+1)) l[k].x ux) (h3:Sl w2 (nf w2 (w.heap.size+1)) l[k].a ua) (h4:Sl w2 (nf w2 (w.heap.size+1)) l[k].b ub)=>h1.step hkl h2 h3 h4);obtain⟨t,ht⟩:∃ t,l[k]=t:=⟨_,rfl⟩;rw[ht] at h3 hx ha hz hss htt hto hsk HST;clear ht hel;obtain⟨c0,c1,c2,c3,c4,c5⟩:=h3.kept (w':=wr) (hbelr.block b (World.block_lt_of_cell? w _ h3.1));have HC:=Hid.mk (toStmt_of t hto.1 hto.2 B (X k) (Y k) (Z k) wr (hx.grow hbelr) (ha.grow hbelr) (hz.grow hbelr) hsk);have hi1:(k:Int)<(l.length:Int):=(by omega);clear hx ha hz hss htt hto h3 HI HH;go_wp2_with fail
   refine HC.out.mono ?_;rintro e w2 ⟨ux,ua,ub,rfl,hrx,hra,hrb,hb2⟩;have HF2:=HFr.out.grow hb2;have H3:=Hid.mk (HST.out w2 ux ua ub HF2 (hrx.imp fun b hb _=>⟨by have:=hb.1;omega,hb.2⟩) (hra.imp fun b hb _=>⟨by have:=hb.1;omega,hb.2⟩) (hrb.imp fun b hb _=>⟨by have:=hb.1;omega,hb.2⟩));have B2:=hbelr.trans (hb2.mono hbelr.size);have hg2:w.heap.size<w2.heap.size:=Nat.lt_of_lt_of_le hgr hb2.size;obtain⟨xs,_,_,_,hown2,-⟩:=HF2;have f0:=hown2.frozenAt (k*6);have f1:=hown2.frozenAt (k*6+1);have f2:=hown2.frozenAt (k*6+2);have f3:=hown2.frozenAt (k*6+3);have f4:=hown2.frozenAt (k*6+4);have f5:=hown2.frozenAt (k*6+5);have hxl:xs.length=l.length*6:=hown2.1;have o0:=hown2.cellAt (k*6) (by omega);have o1:=hown2.cellAt (k*6+1) (by omega);have o2:=hown2.cellAt (k*6+2) (by omega);have o3:=hown2.cellAt (k*6+3) (by omega);have o4:=hown2.cellAt (k*6+4) (by omega);have o5:=hown2.cellAt (k*6+5) (by omega);obtain⟨y0,e0⟩:∃ y,xs[k*6]?=some y:=⟨_,List.getElem?_eq_getElem (by omega)⟩;obtain⟨y1,e1⟩:∃ y,xs[k*6+1]?=some y:=⟨_,List.getElem?_eq_getElem (by omega)⟩;obtain⟨y2,e2⟩:∃ y,xs[k*6+2]?=some y:=⟨_,List.getElem?_eq_getElem (by omega)⟩;obtain⟨y3,e3⟩:∃ y,xs[k*6+3]?=some y:=⟨_,List.getElem?_eq_getElem (by omega)⟩;obtain⟨y4,e4⟩:∃ y,xs[k*6+4]?=some y:=⟨_,List.getElem?_eq_getElem (by omega)⟩;obtain⟨y5,e5⟩:∃ y,xs[k*6+5]?=some y:=⟨_,List.getElem?_eq_getElem (by omega)⟩;rw[e0] at o0;rw[e1] at o1;rw[e2] at o2;rw[e3] at o3;rw[e4] at o4;rw[e5] at o5;clear e0 e1 e2 e3 e4 e5;obtain⟨xa,xc,rfl,-,-,-⟩:=hrx.len;obtain⟨aa,ac,rfl,-,-,-⟩:=hra.len;obtain⟨ba,bc,rfl,-,-,-⟩:=hrb.len;have hk0:0<l.length:=(by omega);clear hown2 HFr HC HST hb2 hbelr hrx hra hrb c0 c1 c2 c3 c4 c5 hxl;go_wp2;go_roundw
   case rel=>exact⟨k+1,by omega,by go_num,H3,(((((B2.setCell (Nat.le_refl _) _).setCell (Nat.le_refl _) _).setCell (Nat.le_refl _) _).setCell (Nat.le_refl _) _).setCell (Nat.le_refl _) _).setCell (Nat.le_refl _) _,by simpa using hg2⟩
   case measure=>simp[intOf];omega
  ·have e:k=l.length:=by omega
   subst e;have HR:=Hid.mk (fun hS=>HFr.out.sl (by unfold maxLen;omega) hS);have HR2:Hid (Sl wr (nf wr w.heap.size) l (.slice (some ⟨w.heap.size,0,none⟩) l.length l.length)):=HR.out (by
    intro i hi;exact HS.out (by intro hn;rw[hn] at hi;simp at hi) i hi)
   clear HR HFr HS HI HH;go_wp2;go_ret;exact⟨_,rfl,HR2.out,hbelr⟩
theorem toStmtS_any (l:List St):ToY l:=(St.ind (P:=fun t=>ToY t.a/\ToY t.b) (fun t iha ihb=>⟨toStmtS_step t.a iha,toStmtS_step t.b ihb⟩) (.node 0 ⟨#[]⟩ ⟨#[]⟩ [] l [])).1
end Go.Proofs.YtkbijjkgfojchaaGreat
