/- Rules: each is asked by ruleOk. .. -/
import Derived.Test.YtkbijjkgfojchaaGreatQRun48
import Derived.Test.YtkbijjkgfojchaaGreatQRun38
namespace Go.Proofs.YtkbijjkgfojchaaGreat
set_option maxHeartbeats 8000000
open Go.RowKit
set_option maxRecDepth 8000
set_option linter.unusedSimpArgs false
theorem same_zero (p:Ex):sameX p (.node 0 0 ByteArray.empty [])=zeroB p:=by
 have he:ByteArray.empty.toList=[]:=by rw[ByteArray.toList_eq];rfl
 have hi:sameX p (.node 0 0 ByteArray.empty [])=true↔zeroB p=true:=by
  rw[sameX_iff];unfold zeroB;constructor
  ·rintro rfl
   simp[Ex.k,Ex.n,Ex.s,Ex.l,he]
  ·intro h
   simp only[Bool.and_eq_true,beq_iff_eq,List.isEmpty_iff] at h;obtain⟨⟨⟨h1,h2⟩,h3⟩,h4⟩:=h;have h5:p.l=[]:=List.length_eq_zero_iff.1 (by omega);have h6:p.s=ByteArray.empty:=txt_same (by rw[h3,he]);rw[<- p.eta,h1,h2,h5,h6]
 cases ha:sameX p (.node 0 0 ByteArray.empty []) <;> cases hb:zeroB p <;> simp_all
theorem ruleOk_any (t:Ru) (x y:Value) (w:World) (hx:El w (uf w) t.p.l x) (hy:Sl w (uf w) t.a y) (hs:ShRu t) (hsz:t.p.s.size<=maxLen) :
  Calls Tryz.prog 42 #[ruV t x y] w fun e w'=>e=.returned (.bool (ruleB t))/\Below w.heap.size w w':=by
 obtain⟨xo,xc,rfl,-⟩:=hx.len;obtain⟨yo,yc,rfl,-⟩:=hy.len;have B0:Below w.heap.size w (w.alloc (.cells #[.int .i64 t.k,.int .i64 t.p.k,.int .i64 t.p.n,.string t.p.s,.slice xo t.p.l.length xc,.slice yo t.a.length yc] 56)):=(Below.refl _ _).alloc (Nat.le_refl _) _;have HX:=Hid.mk (hx.growU B0);have HY:=Hid.mk (hy.growU B0);have HS:=Hid.mk hs;have HSZ:=Hid.mk hsz;have HB0:=Hid.mk B0;have HX6:=Hid.mk (MapKept.heap_alloc w (.cells #[.int .i64 t.k,.int .i64 t.p.k,.int .i64 t.p.n,.string t.p.s,.slice xo t.p.l.length xc,.slice yo t.a.length yc] 56)).1;clear hx hy hs hsz B0;have HR:Hid (ruleB t=(if t.k=1\/t.k=2\/t.k=3 then zeroB t.p&&bodyB t.a else if t.k=4 then okE t.p&&bodyB t.a else false)):=rfl;obtain⟨R,hR⟩:∃ R,ruleB t=R:=⟨_,rfl⟩;rw[hR] at HR |-;clear hR;by_cases hz:t.k=1\/t.k=2\/t.k=3
 ·have HR2:Hid (R=(zeroB t.p&&bodyB t.a)):=by have:=HR.out;rw[if_pos hz] at this;exact this
  clear HR;have hzz:Hid (t.k=1\/t.k=2\/t.k=3):=hz;clear hz;by_cases h1:t.k=1
  ·have e1:(t.k==1)=true:=by simpa using h1
   clear h1;clear hzz;go_enter Tryz.func42,Tryz.ntmps42
   go_wp2_with fail
   refine(implSameExpr_any t.p (.node 0 0 ByteArray.empty []) _ _ _ HX.out (El.zero _ _) HSZ.out (by simp[Ex.s]) (by simp[Ex.sz,szx])).mono ?_;rintro e w1 ⟨rfl,hb1⟩;rw[same_zero];obtain⟨A,hA⟩:∃ A,zeroB t.p=A:=⟨_,rfl⟩;rw[hA] at HR2 |-;clear hA;have cw:∀ o,w1.cell? ⟨w.heap.size,o,none⟩=#[Value.int .i64 t.k,.int .i64 t.p.k,.int .i64 t.p.n,.string t.p.s,.slice xo t.p.l.length xc,.slice yo t.a.length yc][o]?:=fun o=>cell_of_row w1 _ o _ _ (0,0) ((hb1.block _ (by simp)).trans HX6.out);have HYW:=Hid.mk (HY.out.growU hb1);have HB1:Hid (Below w.heap.size w w1):=HB0.out.trans (hb1.mono (by simp));clear hb1;cases A with
   | false =>
    go_wp2;go_ret;have hr:=HR2.out;rw[Bool.false_and] at hr;subst hr;exact⟨rfl,HB1.out⟩
   | true =>
    go_wp2_with fail
    refine(blockOk_any t.a _ _ HYW.out HS.out.2).mono ?_;rintro e w2 ⟨rfl,hb2⟩;have HB2:Hid (Below w.heap.size w w2):=HB1.out.trans (hb2.mono HB1.out.size);clear hb2 cw;obtain⟨A,hA⟩:∃ A,bodyB t.a=A:=⟨_,rfl⟩;rw[hA] at HR2 |-;clear hA;go_wp2;go_ret;have hr:=HR2.out;rw[Bool.true_and] at hr;subst hr;exact⟨rfl,HB2.out⟩
  have e1:(t.k==1)=false:=(by simpa using h1);by_cases h2:t.k=2
  ·have e2:(t.k==2)=true:=by simpa using h2
   clear h1 h2;clear hzz;go_enter Tryz.func42,Tryz.ntmps42
   go_wp2_with fail
   refine(implSameExpr_any t.p (.node 0 0 ByteArray.empty []) _ _ _ HX.out (El.zero _ _) HSZ.out (by simp[Ex.s]) (by simp[Ex.sz,szx])).mono ?_;rintro e w1 ⟨rfl,hb1⟩;rw[same_zero];obtain⟨A,hA⟩:∃ A,zeroB t.p=A:=⟨_,rfl⟩;rw[hA] at HR2 |-;clear hA;have cw:∀ o,w1.cell? ⟨w.heap.size,o,none⟩=#[Value.int .i64 t.k,.int .i64 t.p.k,.int .i64 t.p.n,.string t.p.s,.slice xo t.p.l.length xc,.slice yo t.a.length yc][o]?:=fun o=>cell_of_row w1 _ o _ _ (0,0) ((hb1.block _ (by simp)).trans HX6.out);have HYW:=Hid.mk (HY.out.growU hb1);have HB1:Hid (Below w.heap.size w w1):=HB0.out.trans (hb1.mono (by simp));clear hb1;cases A with
   | false =>
    go_wp2;go_ret;have hr:=HR2.out;rw[Bool.false_and] at hr;subst hr;exact⟨rfl,HB1.out⟩
   | true =>
    go_wp2_with fail
    refine(blockOk_any t.a _ _ HYW.out HS.out.2).mono ?_;rintro e w2 ⟨rfl,hb2⟩;have HB2:Hid (Below w.heap.size w w2):=HB1.out.trans (hb2.mono HB1.out.size);clear hb2 cw;obtain⟨A,hA⟩:∃ A,bodyB t.a=A:=⟨_,rfl⟩;rw[hA] at HR2 |-;clear hA;go_wp2;go_ret;have hr:=HR2.out;rw[Bool.true_and] at hr;subst hr;exact⟨rfl,HB2.out⟩
  have e2:(t.k==2)=false:=(by simpa using h2);have e3:(t.k==3)=true:=(by have:=hzz.out;simp;omega);clear h1 h2;clear hzz;go_enter Tryz.func42,Tryz.ntmps42
  go_wp2_with fail
  refine(implSameExpr_any t.p (.node 0 0 ByteArray.empty []) _ _ _ HX.out (El.zero _ _) HSZ.out (by simp[Ex.s]) (by simp[Ex.sz,szx])).mono ?_;rintro e w1 ⟨rfl,hb1⟩;rw[same_zero];obtain⟨A,hA⟩:∃ A,zeroB t.p=A:=⟨_,rfl⟩;rw[hA] at HR2 |-;clear hA;have cw:∀ o,w1.cell? ⟨w.heap.size,o,none⟩=#[Value.int .i64 t.k,.int .i64 t.p.k,.int .i64 t.p.n,.string t.p.s,.slice xo t.p.l.length xc,.slice yo t.a.length yc][o]?:=fun o=>cell_of_row w1 _ o _ _ (0,0) ((hb1.block _ (by simp)).trans HX6.out);have HYW:=Hid.mk (HY.out.growU hb1);have HB1:Hid (Below w.heap.size w w1):=HB0.out.trans (hb1.mono (by simp));clear hb1;cases A with
  | false =>
   go_wp2;go_ret;have hr:=HR2.out;rw[Bool.false_and] at hr;subst hr;exact⟨rfl,HB1.out⟩
  | true =>
   go_wp2_with fail
   refine(blockOk_any t.a _ _ HYW.out HS.out.2).mono ?_;rintro e w2 ⟨rfl,hb2⟩;have HB2:Hid (Below w.heap.size w w2):=HB1.out.trans (hb2.mono HB1.out.size);clear hb2 cw;obtain⟨A,hA⟩:∃ A,bodyB t.a=A:=⟨_,rfl⟩;rw[hA] at HR2 |-;clear hA;go_wp2;go_ret;have hr:=HR2.out;rw[Bool.true_and] at hr;subst hr;exact⟨rfl,HB2.out⟩
 ·by_cases h4:t.k=4
  ·have HR2:Hid (R=(okE t.p&&bodyB t.a)):=by have:=HR.out;rw[if_neg hz,if_pos h4] at this;exact this
   have h1:¬ t.k=1:=(by omega);have h2:¬ t.k=2:=(by omega);have h3:¬ t.k=3:=(by omega);have e1:(t.k==1)=false:=(by simpa using h1);have e2:(t.k==2)=false:=(by simpa using h2);have e3:(t.k==3)=false:=(by simpa using h3);have e4:(t.k==4)=true:=(by simpa using h4);clear HR hz h1 h2 h3 h4;go_enter Tryz.func42,Tryz.ntmps42
   go_wp2_with fail
   refine(implExprOk_any t.p _ _ _ HX.out HS.out.1).mono ?_;rintro e w1 ⟨rfl,hb1⟩;obtain⟨A,hA⟩:∃ A,okE t.p=A:=⟨_,rfl⟩;rw[hA] at HR2 |-;clear hA;have cw:∀ o,w1.cell? ⟨w.heap.size,o,none⟩=#[Value.int .i64 t.k,.int .i64 t.p.k,.int .i64 t.p.n,.string t.p.s,.slice xo t.p.l.length xc,.slice yo t.a.length yc][o]?:=fun o=>cell_of_row w1 _ o _ _ (0,0) ((hb1.block _ (by simp)).trans HX6.out);have HYW:=Hid.mk (HY.out.growU hb1);have HB1:Hid (Below w.heap.size w w1):=HB0.out.trans (hb1.mono (by simp));clear hb1;cases A with
   | false =>
    go_wp2;go_ret;have hr:=HR2.out;rw[Bool.false_and] at hr;subst hr;exact⟨rfl,HB1.out⟩
   | true =>
    go_wp2_with fail
    refine(blockOk_any t.a _ _ HYW.out HS.out.2).mono ?_;rintro e w2 ⟨rfl,hb2⟩;have HB2:Hid (Below w.heap.size w w2):=HB1.out.trans (hb2.mono HB1.out.size);clear hb2 cw;obtain⟨A,hA⟩:∃ A,bodyB t.a=A:=⟨_,rfl⟩;rw[hA] at HR2 |-;clear hA;go_wp2;go_ret;have hr:=HR2.out;rw[Bool.true_and] at hr;subst hr;exact⟨rfl,HB2.out⟩
  ·have HR2:Hid (R=false):=by have:=HR.out;rw[if_neg hz,if_neg h4] at this;exact this
   have h1:¬ t.k=1:=(by omega);have h2:¬ t.k=2:=(by omega);have h3:¬ t.k=3:=(by omega);have e1:(t.k==1)=false:=(by simpa using h1);have e2:(t.k==2)=false:=(by simpa using h2);have e3:(t.k==3)=false:=(by simpa using h3);have e4:(t.k==4)=false:=(by simpa using h4);clear HR hz h1 h2 h3 h4;go_enter Tryz.func42,Tryz.ntmps42
   go_wp2;go_ret;have hr:=HR2.out;subst hr;exact⟨rfl,HB0.out⟩
theorem eachR_any (l:List Ru) (v:Value) (w:World) (h:Ul w (uf w) l v) (hs:∀ r∈l,ShRu r) :
  Calls Tryz.prog 34 #[v,.func (.func 42) #[] #[]] w fun e w'=>e=.returned (.bool (l.all ruleB))/\Below w.heap.size w w':=by
 obtain⟨ao,cap,rfl,h1,h2,-⟩:=h.len;have h3:cap<=9223372036854775807:=by unfold maxLen at h2;exact h2
 have HL:=Hid.mk h;have HS:=Hid.mk hs;clear h hs h2;obtain⟨n,hn⟩:∃ n,l.length=n:=⟨_,rfl⟩;rw[hn] at h1 HL |-;have HN:=Hid.mk hn;clear hn;have HY:Hid ((∀ j (hj:j<l.length),ruleB l[j]=true)->l.all ruleB=true):=fun h=>List.all_eq_true.2 fun x hx=>by
  obtain⟨j,hj,rfl⟩:=List.mem_iff_getElem.1 hx;exact h j hj
 have HF:Hid (∀ j (hj:j<l.length),ruleB l[j]=false->l.all ruleB=false):=fun j hj h=>by
  cases hq:l.all ruleB with
  | false=>rfl
  | true=>rw[List.all_eq_true.1 hq _ (List.getElem_mem hj)] at h;cases h
 obtain⟨R,hR⟩:∃ R,l.all ruleB=R:=⟨_,rfl⟩;rw[hR] at HY HF |-;clear hR;go_enter Tryz.func34,Tryz.ntmps34
 go_wp2;go_loopw [9] (fun i wr=>∃ k:Nat,k<=n/\i=.int .i64 k/\Hid (∀ j (hj:j<l.length),j<k->ruleB l[j]=true)/\Below w.heap.size w wr) (fun i _=>n-(intOf i).toNat)
 case atStart=>exact⟨0,Nat.zero_le _,rfl,fun j _ h=>absurd h (Nat.not_lt_zero j),Below.refl _ _⟩
 case round =>
  obtain⟨k,hk,rfl,Ho,hbel⟩:=hrel;by_cases hkl:k<n
  ·have hi1:(k:Int)<n:=by omega
   have hkx:k<l.length:=(by rw[HN.out];exact hkl);have hgr:=HL.out.growU hbel;obtain⟨b,off,XP,XA,rfl,hel⟩:=hgr.elems (by rintro rfl;simp at hkx);obtain⟨⟨x0,x1,x2,x3,x4,x5⟩,hsx,hsa,hsz⟩:=hel k hkx;obtain⟨o0,p0,e0,-⟩:=hsx.len;rw[e0] at x4 hsx;obtain⟨o1,p1,e1,-⟩:=hsa.len;rw[e1] at x5 hsa;clear e0 e1 hel hgr;have HO1:Hid (ruleB l[k]=true->∀ j (hj:j<l.length),j<k+1->ruleB l[j]=true):=by
    intro h j hj hj1;by_cases e:j<k
    ·exact Ho.out j hj e
    ·obtain rfl:j=k:=by omega
     exact h
   have HF1:=Hid.mk (HF.out k hkx);have HSK:=Hid.mk (And.intro (HS.out _ (List.getElem_mem hkx)) hsz);clear hsz;obtain⟨x,hx⟩:∃ x,l[k]=x:=⟨_,rfl⟩;rw[hx] at HO1 HF1 HSK x0 x1 x2 x3 x4 x5 hsx hsa;clear hx hkx;have c0:wr.cell? ⟨b,off+k*6,none⟩=some (.int .i64 x.k):=x0;have c1:wr.cell? ⟨b,off+k*6+1,none⟩=some (.int .i64 x.p.k):=x1;have c2:wr.cell? ⟨b,off+k*6+2,none⟩=some (.int .i64 x.p.n):=x2;have c3:wr.cell? ⟨b,off+k*6+3,none⟩=some (.string x.p.s):=x3;have c4:wr.cell? ⟨b,off+k*6+4,none⟩=some (.slice o0 x.p.l.length p0):=x4;have c5:wr.cell? ⟨b,off+k*6+5,none⟩=some (.slice o1 x.a.length p1):=x5;have HE:=Hid.mk (And.intro hsx hsa);clear x0 x1 x2 x3 x4 x5 hsx hsa;go_wp2_with fail
   refine(ruleOk_any x (.slice o0 x.p.l.length p0) (.slice o1 x.a.length p1) _ (HE.out.1.growU (((Below.refl _ _).alloc (Nat.le_refl _) _:Below wr.heap.size wr (wr.alloc _)))) (HE.out.2.growU (((Below.refl _ _).alloc (Nat.le_refl _) _:Below wr.heap.size wr (wr.alloc _)))) HSK.out.1 HSK.out.2).mono ?_;rintro e w3 ⟨rfl,hb3⟩;obtain⟨r,hr⟩:∃ r,ruleB x=r:=⟨_,rfl⟩;rw[hr] at HO1 HF1 |-;clear hr;have HBE:Hid (Below w.heap.size w w3):=hbel.trans (((((Below.refl _ _).alloc (Nat.le_refl _) _:Below wr.heap.size wr (wr.alloc _))).mono hbel.size).trans (hb3.mono (by have:=hbel.size;simp;omega)));clear c0 c1 c2 c3 c4 c5 hb3 hbel;cases r with
   | false =>
    have HF2:=Hid.mk (HF1.out rfl);clear HO1 HF1 Ho;go_wp2;go_ret;have hr:=HF2.out;subst hr;exact⟨rfl,HBE.out⟩
   | true =>
    have HO2:=Hid.mk (HO1.out rfl);clear HO1 HF1 Ho;go_wp2;go_roundw
    case measure=>simp[intOf];omega
    case rel=>exact⟨k+1,by omega,rfl,HO2,HBE.out⟩
  ·obtain rfl:k=n:=by omega
   have hi1:¬ ((k:Int)<(k:Int)):=(by omega);have HT:Hid (R=true):=HY.out fun j hj=>Ho.out j hj (by rw[<- HN.out];exact hj);go_wp2;go_ret;have hr:=HT.out;subst hr;exact⟨rfl,hbel⟩
def HoC (k:Int) (t:St):Prop:=∀ (B:Nat->Prop) (kb:Nat) (vx va vb:Value) (w:World),w.cell? ⟨kb,0,none⟩=some (.int .i64 k)->(∃ xo xc,vx=.slice xo t.x.length xc)->Sl w B t.a va->Sl w B t.b vb ->
 Calls Tryz.prog 103 #[st t.k t.s t.t vx va vb,.pointer (some ⟨kb,0,none⟩)] w fun e w'=>e=.returned (.bool (t.hold k))/\Below w.heap.size w w'
theorem indexHold_of (k:Int) (l:List St) (HR:∀ y∈l,HoC k y) (B:Nat->Prop) (kb:Nat) (v:Value) (w:World) (hk:w.cell? ⟨kb,0,none⟩=some (.int .i64 k)) (h:Sl w B l v) :
  Calls Tryz.prog 144 #[v,.func (.func 103) #[] #[.pointer (some ⟨kb,0,none⟩)]] w fun e w'=>∃ i:Int,e=.returned (.int .i64 i)/\decide (0<=i)=holdL k l/\Below w.heap.size w w':=by
 obtain⟨ao,cap,rfl,h1,h2,-⟩:=h.len;have h3:cap<=9223372036854775807:=by unfold maxLen at h2;exact h2
 have HL:=Hid.mk h;have HC:=Hid.mk HR;have HK:=Hid.mk hk;have hkl:kb<w.heap.size:=World.block_lt_of_cell? w _ hk;clear h HR h2 hk;obtain⟨n,hn⟩:∃ n,l.length=n:=⟨_,rfl⟩;rw[hn] at h1 HL |-;have HN:=Hid.mk hn;clear hn;have HY:Hid ((∀ j (hj:j<l.length),l[j].hold k=false)->holdL k l=false):=holdL_none;have HF:Hid (∀ j (hj:j<l.length),l[j].hold k=true->holdL k l=true):=fun j hj h=>holdL_at hj h;obtain⟨R,hR⟩:∃ R,holdL k l=R:=⟨_,rfl⟩;rw[hR] at HY HF |-;clear hR;go_enter Tryz.func144,Tryz.ntmps144
 go_wp2;go_loopw [8] (fun i wr=>∃ k1:Nat,k1<=n/\i=.int .i64 k1/\Hid (∀ j (hj:j<l.length),j<k1->l[j].hold k=false)/\Below w.heap.size w wr) (fun i _=>n-(intOf i).toNat)
 case atStart=>exact⟨0,Nat.zero_le _,rfl,fun j _ h=>absurd h (Nat.not_lt_zero j),Below.refl _ _⟩
 case round =>
  obtain⟨k1,hk1,rfl,Ho,hbel⟩:=hrel;by_cases hkl1:k1<n
  ·have hi1:(k1:Int)<n:=by omega
   have hkx:k1<l.length:=(by rw[HN.out];exact hkl1);have hgr:=HL.out.grow hbel;obtain⟨b,off,XX,XA,XB,rfl,hel⟩:=hgr.elems (by rintro rfl;simp at hkx);obtain⟨⟨x0,x1,x2,x3,x4,x5⟩,hsx,hsa,hsb,hz1,hz2⟩:=hel k1 hkx;obtain⟨o0,p0,e0,-⟩:=hsx.len;rw[e0] at x3;obtain⟨o1,p1,e1,-⟩:=hsa.len;rw[e1] at x4 hsa;obtain⟨o2,p2,e2,-⟩:=hsb.len;rw[e2] at x5 hsb;clear e0 e1 e2 hel hgr hz1 hz2 hsx;have HO1:Hid (l[k1].hold k=false->∀ j (hj:j<l.length),j<k1+1->l[j].hold k=false):=by
    intro h j hj hj1;by_cases e:j<k1
    ·exact Ho.out j hj e
    ·obtain rfl:j=k1:=by omega
     exact h
   have HF1:=Hid.mk (HF.out k1 hkx);have HSK:=Hid.mk (HC.out _ (List.getElem_mem hkx));obtain⟨x,hx⟩:∃ x,l[k1]=x:=⟨_,rfl⟩;rw[hx] at HO1 HF1 HSK x0 x1 x2 x3 x4 x5 hsa hsb;clear hx hkx;have c0:wr.cell? ⟨b,off+k1*6,none⟩=some (.int .i64 x.k):=x0;have c1:wr.cell? ⟨b,off+k1*6+1,none⟩=some (.string x.s):=x1;have c2:wr.cell? ⟨b,off+k1*6+2,none⟩=some (.string x.t):=x2;have c3:wr.cell? ⟨b,off+k1*6+3,none⟩=some (.slice o0 x.x.length p0):=x3;have c4:wr.cell? ⟨b,off+k1*6+4,none⟩=some (.slice o1 x.a.length p1):=x4;have c5:wr.cell? ⟨b,off+k1*6+5,none⟩=some (.slice o2 x.b.length p2):=x5;have cH:=Hid.mk (HSK.out B kb (.slice o0 x.x.length p0) _ _ wr ((hbel.cell (p:=⟨kb,0,none⟩) hkl).trans HK.out) ⟨_,_,rfl⟩ hsa hsb);clear x0 x1 x2 x3 x4 x5 hsa hsb HSK;go_wp2_with fail
   refine cH.out.mono ?_;rintro e w3 ⟨rfl,hb3⟩;obtain⟨r,hr⟩:∃ r,x.hold k=r:=⟨_,rfl⟩;rw[hr] at HO1 HF1 |-;clear hr;have HBE:Hid (Below w.heap.size w w3):=hbel.trans (hb3.mono hbel.size);clear c0 c1 c2 c3 c4 c5 hb3 hbel cH;cases r with
   | true =>
    have HF2:=Hid.mk (HF1.out rfl);clear HO1 HF1 Ho;go_wp2;go_ret;have hr:=HF2.out;subst hr;exact⟨k1,rfl,by simp,HBE.out⟩
   | false =>
    have HO2:=Hid.mk (HO1.out rfl);clear HO1 HF1 Ho;go_wp2;go_roundw
    case measure=>simp[intOf];omega
    case rel=>exact⟨k1+1,by omega,rfl,HO2,HBE.out⟩
  ·obtain rfl:k1=n:=by omega
   have hi1:¬ ((k1:Int)<(k1:Int)):=(by omega);have HT:Hid (R=false):=HY.out fun j hj=>Ho.out j hj (by rw[<- HN.out];exact hj);go_wp2;go_ret;have hr:=HT.out;subst hr;exact⟨-1,rfl,by simp,hbel⟩
theorem containsHold_of (k:Int) (l:List St) (HR:∀ y∈l,HoC k y) (B:Nat->Prop) (kb:Nat) (v:Value) (w:World) (hk:w.cell? ⟨kb,0,none⟩=some (.int .i64 k)) (h:Sl w B l v) :
  Calls Tryz.prog 102 #[v,.func (.func 103) #[] #[.pointer (some ⟨kb,0,none⟩)]] w fun e w'=>e=.returned (.bool (holdL k l))/\Below w.heap.size w w':=by
 have HI:=Hid.mk (indexHold_of k l HR B kb v w hk h);obtain⟨ao,cap,rfl,h1,h2,-⟩:=h.len;clear h HR hk h2;obtain⟨R,hR⟩:∃ R,holdL k l=R:=⟨_,rfl⟩;rw[hR] at HI |-;clear hR;go_enter Tryz.func102,Tryz.ntmps102
 go_wp2_with fail
 refine HI.out.mono ?_;rintro e w1 ⟨i,rfl,hi,hb⟩;have HB:=Hid.mk hb;have HR:=Hid.mk hi;clear hb HI hi;go_wp2;go_ret;have hr:=HR.out;subst hr;exact⟨by simp,HB.out⟩
theorem holdStmtOf_of (k:Int) (l:List St) (HR:∀ y∈l,HoC k y) (B:Nat->Prop) (v:Value) (w:World) (h:Sl w B l v) :
  Calls Tryz.prog 67 #[v,.int .i64 k] w fun e w'=>e=.returned (.bool (holdL k l))/\Below w.heap.size w w':=by
 have A1:Below w.heap.size w (w.alloc (.cells #[.int .i64 k] 3)):=(Below.refl _ _).alloc (Nat.le_refl _) _;have HI:=Hid.mk (containsHold_of k l HR B w.heap.size v _ (by rw[cell_of_row _ _ _ _ _ (0,0) (heap_alloc_new w (.cells #[.int .i64 k] 3))];rfl) (h.grow A1));have HA:=Hid.mk A1;obtain⟨ao,cap,rfl,h1,h2,-⟩:=h.len;clear h HR h2 A1;obtain⟨R,hR⟩:∃ R,holdL k l=R:=⟨_,rfl⟩;rw[hR] at HI |-;clear hR;go_enter Tryz.func67,Tryz.ntmps67
 go_wp2_with fail
 refine HI.out.mono ?_;rintro e w1 ⟨rfl,hb⟩;have HB:Hid (Below w.heap.size w w1):=HA.out.trans (hb.mono (by simp));clear hb HI;go_wp2;go_ret;exact⟨rfl,HB.out⟩
theorem hoC_any (k:Int):∀ t:St,HoC k t:=by
 intro t;refine St.ind (P:=HoC k) (fun t iha ihb=>?_) t;intro B kb vx va vb w hk hx ha hb;obtain⟨xo,xc,rfl⟩:=hx;obtain⟨o1,p1,rfl,-⟩:=ha.len;obtain⟨o2,p2,rfl,-⟩:=hb.len;have hkl:kb<w.heap.size:=World.block_lt_of_cell? w _ hk;have A1:Below w.heap.size w (w.alloc (.cells #[.int .i64 t.k,.string t.s,.string t.t,.slice xo t.x.length xc,.slice o1 t.a.length p1,.slice o2 t.b.length p2] 52)):=(Below.refl _ _).alloc (Nat.le_refl _) _;have HX:=Hid.mk (heap_alloc_new w (.cells #[.int .i64 t.k,.string t.s,.string t.t,.slice xo t.x.length xc,.slice o1 t.a.length p1,.slice o2 t.b.length p2] 52));have HA:=Hid.mk A1;have HSB:=Hid.mk (hb.grow A1);have HK:=Hid.mk ((A1.cell (p:=⟨kb,0,none⟩) hkl).trans hk);have cA:=Hid.mk (holdStmtOf_of k t.a iha B _ _ (ha.grow A1));have cB:=Hid.mk (fun w' (h:Sl w' B t.b (.slice o2 t.b.length p2))=>holdStmtOf_of k t.b ihb B _ w' h);have HR:=Hid.mk (t.hold_eq k);obtain⟨R,hR⟩:∃ R,t.hold k=R:=⟨_,rfl⟩;rw[hR] at HR |-;obtain⟨ra,hra⟩:∃ R,holdL k t.a=R:=⟨_,rfl⟩;rw[hra] at HR cA;obtain⟨rb,hrb⟩:∃ R,holdL k t.b=R:=⟨_,rfl⟩;rw[hrb] at HR cB;have hwl:w.heap.size<(w.alloc (.cells #[.int .i64 t.k,.string t.s,.string t.t,.slice xo t.x.length xc,.slice o1 t.a.length p1,.slice o2 t.b.length p2] 52)).heap.size:=by simp
 clear ha hb iha ihb hR hra hrb A1 hk;obtain⟨q,hq⟩:∃ q,(t.k==k)=q:=⟨_,rfl⟩;go_enter Tryz.func103,Tryz.ntmps103
 go_upto_region 1 with fail
 have hc1:=fun o=>cell_of_row _ w.heap.size o _ _ (0,0) HX.out;have hk1:=HK.out;generalize w.alloc (.cells #[.int .i64 t.k,.string t.s,.string t.t,.slice xo t.x.length xc,.slice o1 t.a.length p1,.slice o2 t.b.length p2] 52)=w1 at *;cases q with
 | true =>
  have HR2:Hid (R=true):=(by have:=HR.out;rw[hq,Bool.true_or] at this;exact this);clear cA cB HR;go_wp2;go_ret;have hr:=HR2.out;subst hr;exact⟨rfl,HA.out⟩
 | false =>
  have HR2:Hid (R=(ra||rb)):=(by have:=HR.out;rw[hq,Bool.false_or] at this;exact this);clear HR;go_wp2_with fail
  refine cA.out.mono ?_;rintro e w2 ⟨rfl,hb2⟩;have HB2:Hid (Below w.heap.size w w2):=HA.out.trans (hb2.mono (by omega));have hc2:=fun o=>cell_of_row w2 w.heap.size o _ _ (0,0) ((hb2.block w.heap.size hwl).trans HX.out);have hk2:=(hb2.cell (p:=⟨kb,0,none⟩) (Nat.lt_trans hkl hwl)).trans HK.out;have HSB2:=Hid.mk (HSB.out.grow hb2);clear hb2 hc1 hk1 cA HSB;cases ra with
  | true =>
   have HR3:Hid (R=true):=(by have:=HR2.out;rw[Bool.true_or] at this;exact this);clear cB HR2;go_wp2;go_ret;have hr:=HR3.out;subst hr;exact⟨rfl,HB2.out⟩
  | false =>
   have HR3:Hid (R=rb):=(by have:=HR2.out;rw[Bool.false_or] at this;exact this);have cB2:=Hid.mk (cB.out _ HSB2.out);clear HR2 cB;go_wp2_with fail
   refine cB2.out.mono ?_;rintro e w3 ⟨rfl,hb3⟩;have HB3:Hid (Below w.heap.size w w3):=HB2.out.trans (hb3.mono HB2.out.size);clear hb3 cB2 hc2 hk2;go_wp2;go_ret;have hr:=HR3.out;subst hr;exact⟨rfl,HB3.out⟩
theorem holdStmtOf_any (k:Int) (l:List St) (B:Nat->Prop) (v:Value) (w:World) (h:Sl w B l v) :
  Calls Tryz.prog 67 #[v,.int .i64 k] w fun e w'=>e=.returned (.bool (holdL k l))/\Below w.heap.size w w' :=
 holdStmtOf_of k l (fun y _=>hoC_any k y) B v w h
theorem rulePl_any (t:Ru) (x y:Value) (w:World) (hx:El w (uf w) t.p.l x) (hy:Sl w (uf w) t.a y) :
  Calls Tryz.prog 35 #[ruV t x y] w fun e w'=>e=.returned (.bool (rulePl t))/\Below w.heap.size w w':=by
 obtain⟨xo,xc,rfl,-⟩:=hx.len;obtain⟨yo,yc,rfl,-⟩:=hy.len;obtain⟨w1,hw1⟩:∃ w1,w.alloc (.cells #[.int .i64 t.k,.int .i64 t.p.k,.int .i64 t.p.n,.string t.p.s,.slice xo t.p.l.length xc,.slice yo t.a.length yc] 56)=w1:=⟨_,rfl⟩;have B0:Below w.heap.size w w1:=hw1▸(Below.refl _ _).alloc (Nat.le_refl _) _;have hwl:w.heap.size<w1.heap.size:=by rw[<- hw1];simp
 have hw:w1.heap[w.heap.size]?=some (.cells #[.int .i64 t.k,.int .i64 t.p.k,.int .i64 t.p.n,.string t.p.s,.slice xo t.p.l.length xc,.slice yo t.a.length yc] 56 (0,0)):=hw1▸heap_alloc_new w _;have HYb:=Hid.mk (hy.grow B0);have HB0:=Hid.mk B0;have HW:=Hid.mk hw;have HA8:=Hid.mk (holdStmtOf_any 8 t.a (uf w) _ _ HYb.out);have HA10:=Hid.mk (fun w' (hb:Below w1.heap.size w1 w')=>holdStmtOf_any 10 t.a (uf w) _ w' (HYb.out.grow hb));have HR:Hid (rulePl t=((t.k==3||(t.k==4||!holdL 8 t.a))&&!holdL 10 t.a)):=rfl;obtain⟨R,hR⟩:∃ R,rulePl t=R:=⟨_,rfl⟩;rw[hR] at HR |-;clear hR hx hy B0;have cw:=fun o=>cell_of_row w1 w.heap.size o _ _ (0,0) hw;clear hw;obtain⟨q3,h3⟩:∃ b,(t.k==3)=b:=⟨_,rfl⟩;obtain⟨q4,h4⟩:∃ b,(t.k==4)=b:=⟨_,rfl⟩;have HQ:Hid (R=((q3||(q4||!holdL 8 t.a))&&!holdL 10 t.a)):=by have:=HR.out;rw[h3,h4] at this;exact this
 clear HR;cases q3 with
 | true =>
  have HR2:Hid (R=!holdL 10 t.a):=(by have:=HQ.out;rw[Bool.true_or,Bool.true_and] at this;exact this);clear HQ HA8;go_enter Tryz.func35,Tryz.ntmps35
  go_upto_region 1 with fail
  clear hw1;go_wp2_with fail
  refine(HA10.out _ (Below.refl _ _)).mono ?_;rintro e w2 ⟨rfl,hb2⟩;have HB2:Hid (Below w.heap.size w w2):=HB0.out.trans (hb2.mono (by omega));clear hb2;obtain⟨A,hA⟩:∃ A,holdL 10 t.a=A:=⟨_,rfl⟩;rw[hA] at HR2 |-;clear hA;have HR3:Hid ((!A)=R):=HR2.out.symm;clear HR2;go_wp2;go_ret;have hr:=HR3.out;subst hr;exact⟨rfl,HB2.out⟩
 | false =>
  cases q4 with
  | true =>
   have HR2:Hid (R=!holdL 10 t.a):=(by have:=HQ.out;rw[Bool.false_or,Bool.true_or,Bool.true_and] at this;exact this);clear HQ HA8;go_enter Tryz.func35,Tryz.ntmps35
   go_upto_region 1 with fail
   clear hw1;go_wp2_with fail
   refine(HA10.out _ (Below.refl _ _)).mono ?_;rintro e w2 ⟨rfl,hb2⟩;have HB2:Hid (Below w.heap.size w w2):=HB0.out.trans (hb2.mono (by omega));clear hb2;obtain⟨A,hA⟩:∃ A,holdL 10 t.a=A:=⟨_,rfl⟩;rw[hA] at HR2 |-;clear hA;have HR3:Hid ((!A)=R):=HR2.out.symm;clear HR2;go_wp2;go_ret;have hr:=HR3.out;subst hr;exact⟨rfl,HB2.out⟩
  | false =>
   have HQ2:Hid (R=(!holdL 8 t.a&&!holdL 10 t.a)):=(by have:=HQ.out;rw[Bool.false_or,Bool.false_or] at this;exact this);clear HQ;go_enter Tryz.func35,Tryz.ntmps35
   go_upto_region 1 with fail
   clear hw1;go_wp2_with fail
   refine HA8.out.mono ?_;rintro e w3 ⟨rfl,hb3⟩;have HB3:=Hid.mk hb3;have cw3:=fun o=>(hb3.cell (p:=⟨w.heap.size,o,none⟩) hwl).trans (cw o);obtain⟨A,hA⟩:∃ A,holdL 8 t.a=A:=⟨_,rfl⟩;rw[hA] at HQ2 |-;clear hA cw hb3 HA8;cases A with
   | true =>
    have HR2:Hid (R=false):=(by have:=HQ2.out;rw[Bool.not_true,Bool.false_and] at this;exact this);go_wp2;go_ret;have hr:=HR2.out;subst hr;exact⟨rfl,HB0.out.trans (HB3.out.mono (by omega))⟩
   | false =>
    have HR2:Hid (R=!holdL 10 t.a):=(by have:=HQ2.out;rw[Bool.not_false,Bool.true_and] at this;exact this);clear HQ2;go_wp2_with fail
    refine(HA10.out _ HB3.out).mono ?_;rintro e w2 ⟨rfl,hb2⟩;have HB2:Hid (Below w.heap.size w w2):=HB0.out.trans ((HB3.out.mono (by omega)).trans (hb2.mono (by have:=HB3.out.size;omega)));clear hb2;obtain⟨A,hA⟩:∃ A,holdL 10 t.a=A:=⟨_,rfl⟩;rw[hA] at HR2 |-;clear hA;have HR3:Hid ((!A)=R):=HR2.out.symm;clear HR2;go_wp2;go_ret;have hr:=HR3.out;subst hr;exact⟨rfl,HB2.out⟩
theorem eachP_any (l:List Ru) (v:Value) (w:World) (h:Ul w (uf w) l v) (hs:True) :
  Calls Tryz.prog 34 #[v,.func (.func 35) #[] #[]] w fun e w'=>e=.returned (.bool (l.all rulePl))/\Below w.heap.size w w':=by
 obtain⟨ao,cap,rfl,h1,h2,-⟩:=h.len;have h3:cap<=9223372036854775807:=by unfold maxLen at h2;exact h2
 have HL:=Hid.mk h;have HS:=Hid.mk hs;clear h hs h2;obtain⟨n,hn⟩:∃ n,l.length=n:=⟨_,rfl⟩;rw[hn] at h1 HL |-;have HN:=Hid.mk hn;clear hn;have HY:Hid ((∀ j (hj:j<l.length),rulePl l[j]=true)->l.all rulePl=true):=fun h=>List.all_eq_true.2 fun x hx=>by
  obtain⟨j,hj,rfl⟩:=List.mem_iff_getElem.1 hx;exact h j hj
 have HF:Hid (∀ j (hj:j<l.length),rulePl l[j]=false->l.all rulePl=false):=fun j hj h=>by
  cases hq:l.all rulePl with
  | false=>rfl
  | true=>rw[List.all_eq_true.1 hq _ (List.getElem_mem hj)] at h;cases h
 obtain⟨R,hR⟩:∃ R,l.all rulePl=R:=⟨_,rfl⟩;rw[hR] at HY HF |-;clear hR;go_enter Tryz.func34,Tryz.ntmps34
 go_wp2;go_loopw [9] (fun i wr=>∃ k:Nat,k<=n/\i=.int .i64 k/\Hid (∀ j (hj:j<l.length),j<k->rulePl l[j]=true)/\Below w.heap.size w wr) (fun i _=>n-(intOf i).toNat)
 case atStart=>exact⟨0,Nat.zero_le _,rfl,fun j _ h=>absurd h (Nat.not_lt_zero j),Below.refl _ _⟩
 case round =>
  obtain⟨k,hk,rfl,Ho,hbel⟩:=hrel;by_cases hkl:k<n
  ·have hi1:(k:Int)<n:=by omega
   have hkx:k<l.length:=(by rw[HN.out];exact hkl);have hgr:=HL.out.growU hbel;obtain⟨b,off,XP,XA,rfl,hel⟩:=hgr.elems (by rintro rfl;simp at hkx);obtain⟨⟨x0,x1,x2,x3,x4,x5⟩,hsx,hsa,hsz⟩:=hel k hkx;obtain⟨o0,p0,e0,-⟩:=hsx.len;rw[e0] at x4 hsx;obtain⟨o1,p1,e1,-⟩:=hsa.len;rw[e1] at x5 hsa;clear e0 e1 hel hgr;have HO1:Hid (rulePl l[k]=true->∀ j (hj:j<l.length),j<k+1->rulePl l[j]=true):=by
    intro h j hj hj1;by_cases e:j<k
    ·exact Ho.out j hj e
    ·obtain rfl:j=k:=by omega
     exact h
   have HF1:=Hid.mk (HF.out k hkx);have HSK:=Hid.mk (hsz);clear hsz;obtain⟨x,hx⟩:∃ x,l[k]=x:=⟨_,rfl⟩;rw[hx] at HO1 HF1 HSK x0 x1 x2 x3 x4 x5 hsx hsa;clear hx hkx;have c0:wr.cell? ⟨b,off+k*6,none⟩=some (.int .i64 x.k):=x0;have c1:wr.cell? ⟨b,off+k*6+1,none⟩=some (.int .i64 x.p.k):=x1;have c2:wr.cell? ⟨b,off+k*6+2,none⟩=some (.int .i64 x.p.n):=x2;have c3:wr.cell? ⟨b,off+k*6+3,none⟩=some (.string x.p.s):=x3;have c4:wr.cell? ⟨b,off+k*6+4,none⟩=some (.slice o0 x.p.l.length p0):=x4;have c5:wr.cell? ⟨b,off+k*6+5,none⟩=some (.slice o1 x.a.length p1):=x5;have HE:=Hid.mk (And.intro hsx hsa);clear x0 x1 x2 x3 x4 x5 hsx hsa;go_wp2_with fail
   refine(rulePl_any x (.slice o0 x.p.l.length p0) (.slice o1 x.a.length p1) _ (HE.out.1.growU (((Below.refl _ _).alloc (Nat.le_refl _) _:Below wr.heap.size wr (wr.alloc _)))) (HE.out.2.growU (((Below.refl _ _).alloc (Nat.le_refl _) _:Below wr.heap.size wr (wr.alloc _))))).mono ?_;rintro e w3 ⟨rfl,hb3⟩;obtain⟨r,hr⟩:∃ r,rulePl x=r:=⟨_,rfl⟩;rw[hr] at HO1 HF1 |-;clear hr;have HBE:Hid (Below w.heap.size w w3):=hbel.trans (((((Below.refl _ _).alloc (Nat.le_refl _) _:Below wr.heap.size wr (wr.alloc _))).mono hbel.size).trans (hb3.mono (by have:=hbel.size;simp;omega)));clear c0 c1 c2 c3 c4 c5 hb3 hbel;cases r with
   | false =>
    have HF2:=Hid.mk (HF1.out rfl);clear HO1 HF1 Ho;go_wp2;go_ret;have hr:=HF2.out;subst hr;exact⟨rfl,HBE.out⟩
   | true =>
    have HO2:=Hid.mk (HO1.out rfl);clear HO1 HF1 Ho;go_wp2;go_roundw
    case measure=>simp[intOf];omega
    case rel=>exact⟨k+1,by omega,rfl,HO2,HBE.out⟩
  ·obtain rfl:k=n:=by omega
   have hi1:¬ ((k:Int)<(k:Int)):=(by omega);have HT:Hid (R=true):=HY.out fun j hj=>Ho.out j hj (by rw[<- HN.out];exact hj);go_wp2;go_ret;have hr:=HT.out;subst hr;exact⟨rfl,hbel⟩
end Go.Proofs.YtkbijjkgfojchaaGreat
