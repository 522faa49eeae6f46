/- Names,no two alike: the program's noTwoAlike,the library's slices.Contains;each name asked;the functions' names. .. -/
import Derived.Test.YtkbijjkgfojchaaGreatQRun49
namespace Go.Proofs.YtkbijjkgfojchaaGreat
set_option maxHeartbeats 8000000
open Go.RowKit
set_option maxRecDepth 8000
set_option linter.unusedSimpArgs false
def TbC (w:World) (b off:Nat) (xs:List ByteArray):Prop:=∀ j (h:j<xs.length),w.cell? ⟨b,off+j,none⟩=some (.string xs[j])
theorem slicesIndex_any (xs:List ByteArray) (ao:Option Addr) (cap:Nat) (s:ByteArray) (w:World) (hc:xs≠[]->∃ b off,ao=some ⟨b,off,none⟩/\TbC w b off xs) (h1:xs.length<=cap) (h2:cap<=9223372036854775807) :
  Calls Tryz.prog 120 #[.slice ao xs.length cap,.string s] w fun e w'=>∃ m:Int,e=.returned (.int .i64 m)/\decide (0<=m)=hasT xs s/\w'=w:=by
 have HC:=Hid.mk hc;clear hc;obtain⟨n,hn⟩:∃ n,xs.length=n:=⟨_,rfl⟩;rw[hn] at h1 |-;have HN:=Hid.mk hn;clear hn;have HY:=Hid.mk (fun(k:Nat) (h:k<xs.length) (hk:(xs[k].toList==s.toList)=true)=>hasT_yes h hk);have HO:=Hid.mk (fun(h:∀ j (hj:j<xs.length),(xs[j].toList==s.toList)=false)=>hasT_no h);obtain⟨R,hR⟩:∃ R,hasT xs s=R:=⟨_,rfl⟩;rw[hR] at HY HO |-;clear hR;go_enter Tryz.func120,Tryz.ntmps120
 go_wp2;go_loopw [8] (fun i wr=>∃ k:Nat,k<=n/\i=.int .i64 k/\Hid (∀ j (hj:j<xs.length),j<k->(xs[j].toList==s.toList)=false)/\wr=w) (fun i _=>n-(intOf i).toNat)
 case atStart=>exact⟨0,Nat.zero_le _,rfl,fun j _ h=>absurd h (Nat.not_lt_zero j),rfl⟩
 case round =>
  obtain⟨k,hk,rfl,Ho,rfl⟩:=hrel;by_cases hkl:k<n
  ·have hi1:(k:Int)<n:=by omega
   have hkx:k<xs.length:=(by rw[HN.out];exact hkl);obtain⟨b,off,rfl,hcl⟩:=HC.out (by rintro rfl;simp at hkx);have hck:=hcl k hkx;have HY1:=Hid.mk (HY.out k hkx);have HO1:Hid ((xs[k].toList==s.toList)=false->∀ j (hj:j<xs.length),j<k+1->(xs[j].toList==s.toList)=false):=by
    intro h j hj hj1;by_cases e:j<k
    ·exact Ho.out j hj e
    ·obtain rfl:j=k:=by omega
     exact h
   obtain⟨x,hx⟩:∃ x,xs[k]=x:=⟨_,rfl⟩;rw[hx] at hck HY1 HO1;clear hx hkx hcl;by_cases he:x=s
   ·have hb:(s.toList==x.toList)=true:=by rw[he];simp
    have HR:Hid (R=true):=(HY1.out (by rw[he];simp)).symm▸rfl;have HK0:Hid ((0:Int)<=k):=Hid.mk (by omega);clear he HY1 HO1 Ho;go_wp2;go_ret;exact⟨k,rfl,by rw[HR.out];exact decide_eq_true HK0.out,rfl⟩
   ·have hb:(s.toList==x.toList)=false:=by have:=txt_bne (Ne.symm he);simpa [bne] using this
    have HO2:=Hid.mk (HO1.out (by have:=txt_bne he;simpa [bne] using this));clear he HY1 HO1 Ho;go_wp2;go_roundw
    case measure=>simp[intOf];omega
    case rel=>exact⟨k+1,by omega,rfl,HO2,by first | rfl | trivial⟩
  ·obtain rfl:k=n:=by omega
   have hi1:¬ ((k:Int)<(k:Int)):=(by omega);have HR:Hid (R=false):=(HO.out fun j hj=>Ho.out j hj (by rw[<- HN.out];exact hj)).symm▸rfl;go_wp2;go_ret;exact⟨-1,rfl,by rw[HR.out];rfl,rfl⟩
theorem slicesContains_any (xs:List ByteArray) (ao:Option Addr) (cap:Nat) (s:ByteArray) (w:World) (hc:xs≠[]->∃ b off,ao=some ⟨b,off,none⟩/\TbC w b off xs) (h1:xs.length<=cap) (h2:cap<=9223372036854775807) :
  Calls Tryz.prog 80 #[.slice ao xs.length cap,.string s] w fun e w'=>e=.returned (.bool (hasT xs s))/\w'=w:=by
 have HI:=Hid.mk (slicesIndex_any xs ao cap s w hc h1 h2);clear hc;obtain⟨R,hR⟩:∃ R,hasT xs s=R:=⟨_,rfl⟩;rw[hR] at HI |-;clear hR;obtain⟨n,hn⟩:∃ n,xs.length=n:=⟨_,rfl⟩;rw[hn] at HI h1 |-;clear hn;go_enter Tryz.func80,Tryz.ntmps80
 go_wp2_with fail
 refine HI.out.mono ?_;rintro e w' ⟨m,rfl,hm,rfl⟩;have HM:=Hid.mk hm;clear hm HI;by_cases h0:0<=m
 ·have HR:Hid (R=true):=by have:=HM.out;rw[decide_eq_true h0] at this;exact this.symm
  have hd:decide (0<=m)=true:=decide_eq_true h0;go_wp2;go_ret;have hr:=HR.out;subst hr;exact⟨rfl,rfl⟩
 ·have HR:Hid (R=false):=by have:=HM.out;rw[decide_eq_false h0] at this;exact this.symm
  have hd:decide (0<=m)=false:=decide_eq_false h0;go_wp2;go_ret;have hr:=HR.out;subst hr;exact⟨rfl,rfl⟩
open Classical in
noncomputable def noTwoB (l:List ByteArray):Bool:=decide (∀ i (h:i<l.length),hasT (l.take i) l[i]=false)
theorem noTwoB_iff {l:List ByteArray}:noTwoB l=true↔∀ i (h:i<l.length),hasT (l.take i) l[i]=false:=by simp[noTwoB]
theorem noTwoAlike_any (xs:List ByteArray) (ao:Option Addr) (cap:Nat) (w:World) (hc:xs≠[]->∃ b off,ao=some ⟨b,off,none⟩/\TbC w b off xs) (h1:xs.length<=cap) (h2:cap<=9223372036854775807) :
  Calls Tryz.prog 44 #[.slice ao xs.length cap] w fun e w'=>e=.returned (.bool (noTwoB xs))/\w'=w:=by
 have HC:=Hid.mk hc;clear hc;have HI:=Hid.mk (noTwoB_iff (l:=xs));obtain⟨R,hR⟩:∃ R,noTwoB xs=R:=⟨_,rfl⟩;rw[hR] at HI |-;clear hR;obtain⟨n,hn⟩:∃ n,xs.length=n:=⟨_,rfl⟩;rw[hn] at h1 |-;have HN:=Hid.mk hn;clear hn;go_enter Tryz.func44,Tryz.ntmps44
 go_wp2;go_loopw [7] (fun i wr=>∃ k:Nat,k<=n/\i=.int .i64 k/\Hid (∀ j (hj:j<xs.length),j<k->hasT (xs.take j) xs[j]=false)/\wr=w) (fun i _=>n-(intOf i).toNat)
 case atStart=>exact⟨0,Nat.zero_le _,rfl,fun j _ h=>absurd h (Nat.not_lt_zero j),rfl⟩
 case round =>
  obtain⟨k,hk,rfl,Ho,rfl⟩:=hrel;by_cases hkl:k<n
  ·have hi1:(k:Int)<n:=by omega
   have hi2:(k:Int)<=cap:=(by omega);have hi3:k<=cap:=(by omega);have hkx:k<xs.length:=(by rw[HN.out];exact hkl);obtain⟨b,off,rfl,hcl⟩:=HC.out (by rintro rfl;simp at hkx);have hck:=hcl k hkx;have hlt:(xs.take k).length=k:=(by rw[List.length_take];omega);have HCT:=Hid.mk (slicesContains_any (xs.take k) (some ⟨b,off,none⟩) cap xs[k] wr (fun _=>⟨b,off,rfl,fun j hj=>by rw[List.getElem_take];exact hcl j (by omega)⟩) (by omega) h2);rw[hlt] at HCT;have HO1:Hid (hasT (xs.take k) xs[k]=false->∀ j (hj:j<xs.length),j<k+1->hasT (xs.take j) xs[j]=false):=by
    intro h j hj hj1;by_cases e:j<k
    ·exact Ho.out j hj e
    ·obtain rfl:j=k:=by omega
     exact h
   have HNO:Hid (hasT (xs.take k) xs[k]=true->R=false):=by
    intro h;cases R with
    | false=>rfl
    | true=>rw[HI.out.1 rfl k hkx] at h;cases h
   obtain⟨r,hr⟩:∃ r,hasT (xs.take k) xs[k]=r:=⟨_,rfl⟩;rw[hr] at HCT HO1 HNO;obtain⟨x,hx⟩:∃ x,xs[k]=x:=⟨_,rfl⟩;rw[hx] at hck HCT;clear hx hkx hcl hr hlt;go_wp2_with fail
   refine HCT.out.mono ?_;rintro e w' ⟨rfl,rfl⟩;cases r with
   | true =>
    have HF:=Hid.mk (HNO.out rfl);clear HO1 HNO HCT Ho;go_wp2;go_ret;have hr:=HF.out;subst hr;exact⟨rfl,rfl⟩
   | false =>
    have HO2:=Hid.mk (HO1.out rfl);clear HO1 HNO HCT Ho;go_wp2;go_roundw
    case measure=>simp[intOf];omega
    case rel=>exact⟨k+1,by omega,rfl,HO2,by first | rfl | trivial⟩
  ·obtain rfl:k=n:=by omega
   have hi1:¬ ((k:Int)<(k:Int)):=(by omega);have HT:Hid (R=true):=HI.out.2 fun j hj=>Ho.out j hj (by rw[<- HN.out];exact hj);go_wp2;go_ret;have hr:=HT.out;subst hr;exact⟨rfl,rfl⟩
theorem eachT_any (l:List ByteArray) (v:Value) (w:World) (h:Tb w (uf w) v l) (hs:∀ s∈l,s.size<=maxLen) :
  Calls Tryz.prog 79 #[v,.func (.func 78) #[] #[]] w fun e w'=>e=.returned (.bool (l.all nmB))/\Below w.heap.size w w':=by
 obtain⟨ao,cap,rfl,h1,h2,-⟩:=(show ∃ ao cap,v=.slice ao l.length cap/\l.length<=cap/\cap<=maxLen/\True from by obtain⟨a,c,e,e1,e2,-⟩:=h;exact⟨a,c,e,e1,e2,trivial⟩);have h3:cap<=9223372036854775807:=by unfold maxLen at h2;exact h2
 have HL:=Hid.mk h;have HS:=Hid.mk hs;clear h hs h2;obtain⟨n,hn⟩:∃ n,l.length=n:=⟨_,rfl⟩;rw[hn] at h1 HL |-;have HN:=Hid.mk hn;clear hn;have HY:Hid ((∀ j (hj:j<l.length),nmB l[j]=true)->l.all nmB=true):=fun h=>List.all_eq_true.2 fun x hx=>by
  obtain⟨j,hj,rfl⟩:=List.mem_iff_getElem.1 hx;exact h j hj
 have HF:Hid (∀ j (hj:j<l.length),nmB l[j]=false->l.all nmB=false):=fun j hj h=>by
  cases hq:l.all nmB with
  | false=>rfl
  | true=>rw[List.all_eq_true.1 hq _ (List.getElem_mem hj)] at h;cases h
 obtain⟨R,hR⟩:∃ R,l.all nmB=R:=⟨_,rfl⟩;rw[hR] at HY HF |-;clear hR;go_enter Tryz.func79,Tryz.ntmps79
 go_wp2;go_loopw [9] (fun i wr=>∃ k:Nat,k<=n/\i=.int .i64 k/\Hid (∀ j (hj:j<l.length),j<k->nmB l[j]=true)/\Below w.heap.size w wr) (fun i _=>n-(intOf i).toNat)
 case atStart=>exact⟨0,Nat.zero_le _,rfl,fun j _ h=>absurd h (Nat.not_lt_zero j),Below.refl _ _⟩
 case round =>
  obtain⟨k,hk,rfl,Ho,hbel⟩:=hrel;by_cases hkl:k<n
  ·have hi1:(k:Int)<n:=by omega
   have hkx:k<l.length:=(by rw[HN.out];exact hkl);obtain⟨b,off,rfl,hck0⟩:=Tb.at' (HL.out.grow hbel) (by rintro rfl;simp at hkx);have hck:=hck0 k hkx;clear hck0;have HO1:Hid (nmB l[k]=true->∀ j (hj:j<l.length),j<k+1->nmB l[j]=true):=by
    intro h j hj hj1;by_cases e:j<k
    ·exact Ho.out j hj e
    ·obtain rfl:j=k:=by omega
     exact h
   have HF1:=Hid.mk (HF.out k hkx);have HSK:=Hid.mk (HS.out _ (List.getElem_mem hkx));skip;obtain⟨x,hx⟩:∃ x,l[k]=x:=⟨_,rfl⟩;rw[hx] at HO1 HF1 HSK hck;clear hx hkx;go_wp2_with fail
   refine(implNameOk_any x wr HSK.out).mono ?_;rintro e w3 ⟨rfl,rfl⟩;obtain⟨r,hr⟩:∃ r,nmB x=r:=⟨_,rfl⟩;rw[hr] at HO1 HF1 |-;clear hr;have HBE:Hid (Below w.heap.size w w3):=hbel;clear hck hbel;cases r with
   | false =>
    have HF2:=Hid.mk (HF1.out rfl);clear HO1 HF1 Ho;go_wp2;go_ret;have hr:=HF2.out;subst hr;exact⟨rfl,HBE.out⟩
   | true =>
    have HO2:=Hid.mk (HO1.out rfl);clear HO1 HF1 Ho;go_wp2;go_roundw
    case measure=>simp[intOf];omega
    case rel=>exact⟨k+1,by omega,rfl,HO2,HBE.out⟩
  ·obtain rfl:k=n:=by omega
   have hi1:¬ ((k:Int)<(k:Int)):=(by omega);have HT:Hid (R=true):=HY.out fun j hj=>Ho.out j hj (by rw[<- HN.out];exact hj);go_wp2;go_ret;have hr:=HT.out;subst hr;exact⟨rfl,hbel⟩
theorem tbLen {w:World} {B:Nat->Prop} {l:List ByteArray} {v:Value} (h:Tb w B v l):∃ ao cap,v=.slice ao l.length cap:=by obtain⟨a,c,e,-⟩:=h;exact⟨a,c,e⟩
theorem Tb.growU {w w':World} {l:List ByteArray} {v:Value} (h:Tb w (uf w) v l) (hk:Below w.heap.size w w'):Tb w' (uf w') v l:=(h.imp fun _ hb hlt=>uf.grow hk hb hlt).grow hk
theorem Tb.c {w:World} {B:Nat->Prop} {ao:Option Addr} {n cap:Nat} {l:List ByteArray} (h:Tb w B (.slice ao n cap) l):l≠[]->∃ b off,ao=some ⟨b,off,none⟩/\TbC w b off l:=by
 intro hl;obtain⟨_,_,e,_,_,_,_,h6⟩:=h;cases e;obtain⟨b,off,e,-,hc⟩:=h6 hl;exact⟨b,off,e,fun j hj=>by rw[hc j hj];simp[hj]⟩
theorem own_fullF {w:World} {e:TypeId} {g m:Nat} {xs:List Value} (h:w.ownsRow 0 e 1 (.slice (some ⟨g,0,none⟩) m m) m xs):w.heap[g]?=some (.cells xs.toArray e (0,0)):=by
 rcases h.2 with⟨h',_⟩ | ⟨g',cap',cur,h',hb,hg,hn,hm,hs,ht⟩
 ·simp at h'
 ·simp only[Value.slice.injEq,Option.some.injEq,Addr.mk.injEq,and_true,true_and] at h'
  obtain⟨rfl,rfl⟩:=h';rw[hg];congr 2
  rw[<- ht,List.take_of_length_le (by rw[Array.length_toList,hs];exact Nat.le_refl _)]
noncomputable def fnB (f:Fu):Bool:=nmB f.n&&(decide (f.ps.length<=4)&&(f.ps.all nmB&&(noTwoB f.ps&&bodyB f.a)))
theorem fnOk_any (t:Fu) (x y:Value) (w:World) (hx:Tb w (uf w) x t.ps) (hy:Sl w (uf w) t.a y) (hs:ShFu t) (hsz:t.n.size<=maxLen) :
  Calls Tryz.prog 43 #[fuV t x y] w fun e w'=>e=.returned (.bool (fnB t))/\Below w.heap.size w w':=by
 have hx0:=hx;obtain⟨xo,xc,rfl,g1,g2,-,g3,-⟩:=hx;have g4:xc<=9223372036854775807:=by unfold maxLen at g2;exact g2
 obtain⟨yo,yc,rfl,-⟩:=hy.len;have B0:Below w.heap.size w (w.alloc (.cells #[.string t.n,.slice xo t.ps.length xc,.slice yo t.a.length yc] 71)):=(Below.refl _ _).alloc (Nat.le_refl _) _;have HX:=Hid.mk (hx0.growU B0);have HY:=Hid.mk (hy.growU B0);have HS:=Hid.mk hs;have HSZ:=Hid.mk hsz;have HB0:=Hid.mk B0;have HG:=Hid.mk g3;have HX3:=Hid.mk (MapKept.heap_alloc w (.cells #[.string t.n,.slice xo t.ps.length xc,.slice yo t.a.length yc] 71)).1;clear hx0 hy hs hsz B0 g2 g3;have HR:Hid (fnB t=(nmB t.n&&(decide (t.ps.length<=4)&&(t.ps.all nmB&&(noTwoB t.ps&&bodyB t.a))))):=rfl;obtain⟨R,hR⟩:∃ R,fnB t=R:=⟨_,rfl⟩;rw[hR] at HR |-;clear hR;obtain⟨n,hn⟩:∃ n,t.ps.length=n:=⟨_,rfl⟩;rw[hn] at HR HX HY HX3 HB0 g1;rw[hn];have HN:=Hid.mk hn;clear hn;go_enter Tryz.func43,Tryz.ntmps43
 go_wp2_with fail
 refine(implNameOk_any t.n _ HSZ.out).mono ?_;rintro e w1 ⟨rfl,rfl⟩;obtain⟨A,hA⟩:∃ A,nmB t.n=A:=⟨_,rfl⟩;rw[hA] at HR |-;clear hA;cases A with
 | false =>
  have HR2:Hid (R=false):=(by have:=HR.out;rw[Bool.false_and] at this;exact this);go_wp2;go_ret;have hr:=HR2.out;subst hr;exact⟨rfl,HB0.out⟩
 | true =>
  have HR:Hid (R=(decide (n<=4)&&(t.ps.all nmB&&(noTwoB t.ps&&bodyB t.a)))):=(by have:=HR.out;rw[Bool.true_and] at this;exact this);by_cases h4:n<=4
  case neg =>
   have hi:¬ ((n:Int)<=4):=(by omega);have HR2:Hid (R=false):=(by have:=HR.out;rw[decide_eq_false h4,Bool.false_and] at this;exact this);go_wp2;go_ret;have hr:=HR2.out;subst hr;exact⟨rfl,HB0.out⟩
  have hi:(n:Int)<=4:=(by omega);have HR:Hid (R=(t.ps.all nmB&&(noTwoB t.ps&&bodyB t.a))):=(by have:=HR.out;rw[decide_eq_true h4,Bool.true_and] at this;exact this);go_wp2_with fail
  refine(eachT_any t.ps _ _ HX.out HG.out).mono ?_;rintro e w2 ⟨rfl,hb2⟩;obtain⟨A,hA⟩:∃ A,t.ps.all nmB=A:=⟨_,rfl⟩;rw[hA] at HR |-;clear hA;have c2:∀ o,w2.cell? ⟨w.heap.size,o,none⟩=#[Value.string t.n,.slice xo n xc,.slice yo t.a.length yc][o]?:=fun o=>cell_of_row w2 _ o _ _ (0,0) ((hb2.block _ (by simp)).trans HX3.out);have HB2:Hid (Below w.heap.size w w2):=HB0.out.trans (hb2.mono (by simp));have HX2:=Hid.mk (HX.out.growU hb2);have HY2:=Hid.mk (HY.out.growU hb2);have l2:w.heap.size<w2.heap.size:=(by have:=hb2.size;simp at this;omega);clear hb2;cases A with
  | false =>
   have HR2:Hid (R=false):=(by have:=HR.out;rw[Bool.false_and] at this;exact this);go_wp2;go_ret;have hr:=HR2.out;subst hr;exact⟨rfl,HB2.out⟩
  | true =>
   have HR:Hid (R=(noTwoB t.ps&&bodyB t.a)):=(by have:=HR.out;rw[Bool.true_and] at this;exact this);have HNT:=Hid.mk (noTwoAlike_any t.ps xo xc w2 HX2.out.c (by rw[HN.out];exact g1) g4);rw[HN.out] at HNT;go_wp2_with fail
   refine HNT.out.mono ?_;rintro e w3 ⟨rfl,rfl⟩;obtain⟨A,hA⟩:∃ A,noTwoB t.ps=A:=⟨_,rfl⟩;rw[hA] at HR |-;clear hA HNT;cases A with
   | false =>
    have HR2:Hid (R=false):=(by have:=HR.out;rw[Bool.false_and] at this;exact this);go_wp2;go_ret;have hr:=HR2.out;subst hr;exact⟨rfl,HB2.out⟩
   | true =>
    have HR:Hid (R=bodyB t.a):=(by have:=HR.out;rw[Bool.true_and] at this;exact this);go_wp2_with fail
    refine(blockOk_any t.a _ _ HY2.out HS.out).mono ?_;rintro e w4 ⟨rfl,hb4⟩;have HB4:Hid (Below w.heap.size w w4):=HB2.out.trans (hb4.mono HB2.out.size);obtain⟨A,hA⟩:∃ A,bodyB t.a=A:=⟨_,rfl⟩;rw[hA] at HR |-;clear hA hb4 c2;go_wp2;go_ret;have hr:=HR.out;subst hr;exact⟨rfl,HB4.out⟩
theorem eachF_any (l:List Fu) (v:Value) (w:World) (h:Fl w (uf w) l v) (hs:∀ f∈l,ShFu f) :
  Calls Tryz.prog 36 #[v,.func (.func 43) #[] #[]] w fun e w'=>e=.returned (.bool (l.all fnB))/\Below w.heap.size w w':=by
 obtain⟨ao,cap,rfl,h1,h2,-⟩:=h.len;have h3:cap<=9223372036854775807:=by unfold maxLen at h2;exact h2
 have HL:=Hid.mk h;have HS:=Hid.mk hs;clear h hs h2;obtain⟨n,hn⟩:∃ n,l.length=n:=⟨_,rfl⟩;rw[hn] at h1 HL |-;have HN:=Hid.mk hn;clear hn;have HY:Hid ((∀ j (hj:j<l.length),fnB l[j]=true)->l.all fnB=true):=fun h=>List.all_eq_true.2 fun x hx=>by
  obtain⟨j,hj,rfl⟩:=List.mem_iff_getElem.1 hx;exact h j hj
 have HF:Hid (∀ j (hj:j<l.length),fnB l[j]=false->l.all fnB=false):=fun j hj h=>by
  cases hq:l.all fnB with
  | false=>rfl
  | true=>rw[List.all_eq_true.1 hq _ (List.getElem_mem hj)] at h;cases h
 obtain⟨R,hR⟩:∃ R,l.all fnB=R:=⟨_,rfl⟩;rw[hR] at HY HF |-;clear hR;go_enter Tryz.func36,Tryz.ntmps36
 go_wp2;go_loopw [9] (fun i wr=>∃ k:Nat,k<=n/\i=.int .i64 k/\Hid (∀ j (hj:j<l.length),j<k->fnB l[j]=true)/\Below w.heap.size w wr) (fun i _=>n-(intOf i).toNat)
 case atStart=>exact⟨0,Nat.zero_le _,rfl,fun j _ h=>absurd h (Nat.not_lt_zero j),Below.refl _ _⟩
 case round =>
  obtain⟨k,hk,rfl,Ho,hbel⟩:=hrel;by_cases hkl:k<n
  ·have hi1:(k:Int)<n:=by omega
   have hkx:k<l.length:=(by rw[HN.out];exact hkl);have hgr:=HL.out.growU hbel;obtain⟨b,off,XP,XA,rfl,hel⟩:=hgr.elems (by rintro rfl;simp at hkx);obtain⟨⟨x0,x1,x2⟩,hsx,hsa,hsz⟩:=hel k hkx;obtain⟨o0,p0,e0⟩:=tbLen hsx;rw[e0] at x1 hsx;obtain⟨o1,p1,e1,-⟩:=hsa.len;rw[e1] at x2 hsa;clear e0 e1 hel hgr;have HO1:Hid (fnB l[k]=true->∀ j (hj:j<l.length),j<k+1->fnB l[j]=true):=by
    intro h j hj hj1;by_cases e:j<k
    ·exact Ho.out j hj e
    ·obtain rfl:j=k:=by omega
     exact h
   have HF1:=Hid.mk (HF.out k hkx);have HSK:=Hid.mk (And.intro (HS.out _ (List.getElem_mem hkx)) hsz);clear hsz;obtain⟨x,hx⟩:∃ x,l[k]=x:=⟨_,rfl⟩;rw[hx] at HO1 HF1 HSK x0 x1 x2 hsx hsa;clear hx hkx;have c0:wr.cell? ⟨b,off+k*3,none⟩=some (.string x.n):=x0;have c1:wr.cell? ⟨b,off+k*3+1,none⟩=some (.slice o0 x.ps.length p0):=x1;have c2:wr.cell? ⟨b,off+k*3+2,none⟩=some (.slice o1 x.a.length p1):=x2;have HE:=Hid.mk (And.intro hsx hsa);clear x0 x1 x2 hsx hsa;go_wp2_with fail
   refine(fnOk_any x (.slice o0 x.ps.length p0) (.slice o1 x.a.length p1) _ (HE.out.1.growU (((Below.refl _ _).alloc (Nat.le_refl _) _:Below wr.heap.size wr (wr.alloc _)))) (HE.out.2.growU (((Below.refl _ _).alloc (Nat.le_refl _) _:Below wr.heap.size wr (wr.alloc _)))) HSK.out.1 HSK.out.2).mono ?_;rintro e w3 ⟨rfl,hb3⟩;obtain⟨r,hr⟩:∃ r,fnB x=r:=⟨_,rfl⟩;rw[hr] at HO1 HF1 |-;clear hr;have HBE:Hid (Below w.heap.size w w3):=hbel.trans (((((Below.refl _ _).alloc (Nat.le_refl _) _:Below wr.heap.size wr (wr.alloc _))).mono hbel.size).trans (hb3.mono (by have:=hbel.size;simp;omega)));clear c0 c1 c2 hb3 hbel;cases r with
   | false =>
    have HF2:=Hid.mk (HF1.out rfl);clear HO1 HF1 Ho;go_wp2;go_ret;have hr:=HF2.out;subst hr;exact⟨rfl,HBE.out⟩
   | true =>
    have HO2:=Hid.mk (HO1.out rfl);clear HO1 HF1 Ho;go_wp2;go_roundw
    case measure=>simp[intOf];omega
    case rel=>exact⟨k+1,by omega,rfl,HO2,HBE.out⟩
  ·obtain rfl:k=n:=by omega
   have hi1:¬ ((k:Int)<(k:Int)):=(by omega);have HT:Hid (R=true):=HY.out fun j hj=>Ho.out j hj (by rw[<- HN.out];exact hj);go_wp2;go_ret;have hr:=HT.out;subst hr;exact⟨rfl,hbel⟩
theorem fnNames_any (l:List Fu) (v:Value) (w:World) (h:Fl w (uf w) l v) (hl:l.length<=6) :
  Calls Tryz.prog 45 #[v] w fun e w'=>∃ g,e=.returned (.slice (some ⟨g,0,none⟩) l.length l.length)/\TbC w' g 0 (l.map Fu.n)/\Below w.heap.size w w':=by
 obtain⟨ao,cap,rfl,h1,h2,-⟩:=h.len;have h3:cap<=9223372036854775807:=by unfold maxLen at h2;exact h2
 have HL:=Hid.mk h;clear h h2;obtain⟨n,hn⟩:∃ n,l.length=n:=⟨_,rfl⟩;rw[hn] at h1 hl HL |-;have HN:=Hid.mk hn;clear hn;obtain⟨i0,hi,hz0,hz1,hz2⟩:=info_parts (show(Tryz.prog.info? 9).map (fun i=>(i.zero,i.size,i.bytes))=some (some (.string ByteArray.empty),1,16) by kernel_rfl);go_enter Tryz.func45,Tryz.ntmps45
 go_wp2_with (at_make;refine wpList_make_full _ rfl _ _ 29 rfl 0 9 i0 _ 1 Tryz.underlying29 hi hz0 hz1 _ _ _ _ n rfl rfl rfl rfl (by rw[hz2];omega) (by unfold maxLen;omega) (by simp) ?_;intro w1 ho1 hg1;refine Hid.out ?_)
 have hf1:=own_fullF ho1;have hlen:=ho1.1;have HST:Hid (∃ C:Array Value,w1.heap[w.heap.size]?=some (.cells C 9 (0,0))/\C.size=n/\∀ j (h:j<l.length),j<0->C[j]?=some (.string l[j].n)):=⟨_,hf1,by simpa using hlen,fun j _ h=>absurd h (Nat.not_lt_zero j)⟩;have HB1:Hid (Below w.heap.size w w1):=(Below.refl _ _).grown hg1 (Nat.le_refl _) (by simp);clear hf1 hlen ho1 hg1;refine Hid.mk ?_;go_wp2;go_loopw [11] (fun i wr=>∃ k:Nat,k<=n/\i=.int .i64 k/\Hid (∃ C:Array Value,wr.heap[w.heap.size]?=some (.cells C 9 (0,0))/\C.size=n/\∀ j (h:j<l.length),j<k->C[j]?=some (.string l[j].n))/\Below w.heap.size w wr) (fun i _=>n-(intOf i).toNat)
 case atStart=>exact⟨0,Nat.zero_le _,rfl,HST,HB1.out⟩
 case round =>
  obtain⟨k,hk,rfl,Ho,hbel⟩:=hrel;obtain⟨C,hC,hCs,hCj⟩:=Ho.out;clear HST HB1 Ho;by_cases hkl:k<n
  ·have hi1:(k:Int)<n:=by omega
   have hkx:k<l.length:=(by rw[HN.out];exact hkl);obtain⟨b,off,XP,XA,rfl,hel⟩:=(HL.out.grow hbel).elems (by rintro rfl;simp at hkx);obtain⟨⟨x0,x1,x2⟩,hsx,hsa,hsz⟩:=hel k hkx;obtain⟨o0,p0,e0⟩:=tbLen hsx;rw[e0] at x1;obtain⟨o1,p1,e1,-⟩:=hsa.len;rw[e1] at x2;clear e0 e1 hel hsx hsa hsz;have HJ:Hid (∀ s,l[k].n=s->∀ wz:World,wz.heap[w.heap.size]?=some (.cells (C.setIfInBounds k (.string s)) 9 (0,0))->∃ C:Array Value,wz.heap[w.heap.size]?=some (.cells C 9 (0,0))/\C.size=n/\∀ j (h:j<l.length),j<k+1->C[j]?=some (.string l[j].n)):=by
    rintro s rfl wz hz;refine⟨_,hz,by simpa using hCs,fun j hj hj1=>?_⟩;by_cases e:j=k
    ·subst e
     rw[Array.getElem?_setIfInBounds_self_of_lt (by omega)]
    ·rw[Array.getElem?_setIfInBounds_ne (Ne.symm e)]
     exact hCj j hj (by omega)
   obtain⟨x,hx⟩:∃ x,l[k]=x:=⟨_,rfl⟩;rw[hx] at x0 x1 x2 HJ;have hlw:w.heap.size<wr.heap.size:=(Array.getElem?_eq_some_iff.1 hC).1;have hnw:w.heap.size≠wr.heap.size:=(by omega);have cC:∃ q,wr.cell? ⟨w.heap.size,k,none⟩=some q:=by
    rw[cell_of_row wr _ k _ _ (0,0) hC];exact⟨C[k]'(by omega),by simp[hCs,hkl]⟩
   obtain⟨q,cq⟩:=cC;have fC:∀ o,wr.frozen? ⟨w.heap.size,o,none⟩=false:=fun o=>by simp[World.frozen?,hC]
   have HCC:=Hid.mk hC;clear hC hCs hCj hx hkx;go_wp2;go_roundw
   case measure=>simp[intOf];omega
   case rel =>
    refine⟨k+1,by omega,rfl,HJ.out _ rfl _ ?_,(hbel.setCell (p:=⟨w.heap.size,k,none⟩) (Nat.le_refl _) _).alloc (by simp;omega) _⟩;rw[(World.grownBy_alloc _ _ none).block _ (by simpa using hlw) (by simp)];exact heap_setCell_same HCC.out k _
  ·obtain rfl:k=n:=by omega
   have hi1:¬ ((k:Int)<(k:Int)):=(by omega);have HT:Hid (TbC wr w.heap.size 0 (l.map Fu.n)):=by
    intro j hj;have hj':j<l.length:=(by simpa using hj);rw[Nat.zero_add,cell_of_row wr _ j _ _ (0,0) hC,hCj j hj' (by rw[<- HN.out];exact hj')];simp
   clear hC hCs hCj;go_wp2;go_ret;exact⟨w.heap.size,rfl,HT.out,hbel⟩
theorem fnPl_any (t:Fu) (x y:Value) (w:World) (hx:Tb w (uf w) x t.ps) (hy:Sl w (uf w) t.a y) :
  Calls Tryz.prog 37 #[fuV t x y] w fun e w'=>e=.returned (.bool (fnPl t))/\Below w.heap.size w w':=by
 obtain⟨xo,xc,rfl⟩:=tbLen hx;obtain⟨yo,yc,rfl,-⟩:=hy.len;obtain⟨w1,hw1⟩:∃ w1,w.alloc (.cells #[.string t.n,.slice xo t.ps.length xc,.slice yo t.a.length yc] 71)=w1:=⟨_,rfl⟩;have B0:Below w.heap.size w w1:=hw1▸(Below.refl _ _).alloc (Nat.le_refl _) _;have hwl:w.heap.size<w1.heap.size:=by rw[<- hw1];simp
 have hw:w1.heap[w.heap.size]?=some (.cells #[.string t.n,.slice xo t.ps.length xc,.slice yo t.a.length yc] 71 (0,0)):=hw1▸heap_alloc_new w _;have HB0:=Hid.mk B0;have HA8:=Hid.mk (holdStmtOf_any 8 t.a (uf w) _ _ (hy.grow B0));have HR:Hid (fnPl t=!holdL 8 t.a):=rfl;obtain⟨R,hR⟩:∃ R,fnPl t=R:=⟨_,rfl⟩;rw[hR] at HR |-;clear hR hx hy B0;have cw:=fun o=>cell_of_row w1 w.heap.size o _ _ (0,0) hw;clear hw;go_enter Tryz.func37,Tryz.ntmps37
 go_upto_region 1 with fail
 clear hw1;go_wp2_with fail
 refine HA8.out.mono ?_;rintro e w3 ⟨rfl,hb3⟩;have HB3:Hid (Below w.heap.size w w3):=HB0.out.trans (hb3.mono (by omega));obtain⟨A,hA⟩:∃ A,holdL 8 t.a=A:=⟨_,rfl⟩;rw[hA] at HR |-;clear hA cw hb3 HA8;have HR3:Hid ((!A)=R):=HR.out.symm;clear HR;go_wp2;go_ret;have hr:=HR3.out;subst hr;exact⟨rfl,HB3.out⟩
theorem eachQ_any (l:List Fu) (v:Value) (w:World) (h:Fl w (uf w) l v) (hs:True) :
  Calls Tryz.prog 36 #[v,.func (.func 37) #[] #[]] w fun e w'=>e=.returned (.bool (l.all fnPl))/\Below w.heap.size w w':=by
 obtain⟨ao,cap,rfl,h1,h2,-⟩:=h.len;have h3:cap<=9223372036854775807:=by unfold maxLen at h2;exact h2
 have HL:=Hid.mk h;have HS:=Hid.mk hs;clear h hs h2;obtain⟨n,hn⟩:∃ n,l.length=n:=⟨_,rfl⟩;rw[hn] at h1 HL |-;have HN:=Hid.mk hn;clear hn;have HY:Hid ((∀ j (hj:j<l.length),fnPl l[j]=true)->l.all fnPl=true):=fun h=>List.all_eq_true.2 fun x hx=>by
  obtain⟨j,hj,rfl⟩:=List.mem_iff_getElem.1 hx;exact h j hj
 have HF:Hid (∀ j (hj:j<l.length),fnPl l[j]=false->l.all fnPl=false):=fun j hj h=>by
  cases hq:l.all fnPl with
  | false=>rfl
  | true=>rw[List.all_eq_true.1 hq _ (List.getElem_mem hj)] at h;cases h
 obtain⟨R,hR⟩:∃ R,l.all fnPl=R:=⟨_,rfl⟩;rw[hR] at HY HF |-;clear hR;go_enter Tryz.func36,Tryz.ntmps36
 go_wp2;go_loopw [9] (fun i wr=>∃ k:Nat,k<=n/\i=.int .i64 k/\Hid (∀ j (hj:j<l.length),j<k->fnPl l[j]=true)/\Below w.heap.size w wr) (fun i _=>n-(intOf i).toNat)
 case atStart=>exact⟨0,Nat.zero_le _,rfl,fun j _ h=>absurd h (Nat.not_lt_zero j),Below.refl _ _⟩
 case round =>
  obtain⟨k,hk,rfl,Ho,hbel⟩:=hrel;by_cases hkl:k<n
  ·have hi1:(k:Int)<n:=by omega
   have hkx:k<l.length:=(by rw[HN.out];exact hkl);have hgr:=HL.out.growU hbel;obtain⟨b,off,XP,XA,rfl,hel⟩:=hgr.elems (by rintro rfl;simp at hkx);obtain⟨⟨x0,x1,x2⟩,hsx,hsa,hsz⟩:=hel k hkx;obtain⟨o0,p0,e0⟩:=tbLen hsx;rw[e0] at x1 hsx;obtain⟨o1,p1,e1,-⟩:=hsa.len;rw[e1] at x2 hsa;clear e0 e1 hel hgr;have HO1:Hid (fnPl l[k]=true->∀ j (hj:j<l.length),j<k+1->fnPl l[j]=true):=by
    intro h j hj hj1;by_cases e:j<k
    ·exact Ho.out j hj e
    ·obtain rfl:j=k:=by omega
     exact h
   have HF1:=Hid.mk (HF.out k hkx);have HSK:=Hid.mk (hsz);clear hsz;obtain⟨x,hx⟩:∃ x,l[k]=x:=⟨_,rfl⟩;rw[hx] at HO1 HF1 HSK x0 x1 x2 hsx hsa;clear hx hkx;have c0:wr.cell? ⟨b,off+k*3,none⟩=some (.string x.n):=x0;have c1:wr.cell? ⟨b,off+k*3+1,none⟩=some (.slice o0 x.ps.length p0):=x1;have c2:wr.cell? ⟨b,off+k*3+2,none⟩=some (.slice o1 x.a.length p1):=x2;have HE:=Hid.mk (And.intro hsx hsa);clear x0 x1 x2 hsx hsa;go_wp2_with fail
   refine(fnPl_any x (.slice o0 x.ps.length p0) (.slice o1 x.a.length p1) _ (HE.out.1.growU (((Below.refl _ _).alloc (Nat.le_refl _) _:Below wr.heap.size wr (wr.alloc _)))) (HE.out.2.growU (((Below.refl _ _).alloc (Nat.le_refl _) _:Below wr.heap.size wr (wr.alloc _))))).mono ?_;rintro e w3 ⟨rfl,hb3⟩;obtain⟨r,hr⟩:∃ r,fnPl x=r:=⟨_,rfl⟩;rw[hr] at HO1 HF1 |-;clear hr;have HBE:Hid (Below w.heap.size w w3):=hbel.trans (((((Below.refl _ _).alloc (Nat.le_refl _) _:Below wr.heap.size wr (wr.alloc _))).mono hbel.size).trans (hb3.mono (by have:=hbel.size;simp;omega)));clear c0 c1 c2 hb3 hbel;cases r with
   | false =>
    have HF2:=Hid.mk (HF1.out rfl);clear HO1 HF1 Ho;go_wp2;go_ret;have hr:=HF2.out;subst hr;exact⟨rfl,HBE.out⟩
   | true =>
    have HO2:=Hid.mk (HO1.out rfl);clear HO1 HF1 Ho;go_wp2;go_roundw
    case measure=>simp[intOf];omega
    case rel=>exact⟨k+1,by omega,rfl,HO2,HBE.out⟩
  ·obtain rfl:k=n:=by omega
   have hi1:¬ ((k:Int)<(k:Int)):=(by omega);have HT:Hid (R=true):=HY.out fun j hj=>Ho.out j hj (by rw[<- HN.out];exact hj);go_wp2;go_ret;have hr:=HT.out;subst hr;exact⟨rfl,hbel⟩
theorem progB_eq (t:Pg):progB t=(decide (t.r.length<=10)&&(decide (t.f.length<=6)&&(t.r.all ruleB&&(t.f.all fnB&&noTwoB (t.f.map Fu.n))))):=by
 have hfn:∀ f:Fu,fnB f=true↔nmB f.n=true/\f.ps.length<=4/\(∀ s∈f.ps,nmB s=true)/\noTwoB f.ps=true/\bodyB f.a=true:=by
  intro f;unfold fnB;simp only[Bool.and_eq_true,decide_eq_true_eq,List.all_eq_true]
 have hpa:∀ l:List ByteArray,paramsB l=true↔l.length<=4/\(∀ s∈l,nmB s=true)/\noTwoB l=true:=by
  intro l;rw[paramsB_iff,noTwoB_iff];constructor
  ·rintro⟨h1,h2⟩
   exact⟨h2,fun s hs=>by obtain⟨i,hi,rfl⟩:=List.mem_iff_getElem.1 hs;exact(h1 i hi).1,fun i hi=>(h1 i hi).2⟩
  ·rintro⟨h1,h2,h3⟩
   exact⟨fun i hi=>⟨h2 _ (List.getElem_mem hi),h3 i hi⟩,h1⟩
 have hi:progB t=true↔(decide (t.r.length<=10)&&(decide (t.f.length<=6)&&(t.r.all ruleB&&(t.f.all fnB&&noTwoB (t.f.map Fu.n)))))=true:=by
  rw[progB_iff];simp only[Bool.and_eq_true,decide_eq_true_eq,List.all_eq_true];constructor
  ·rintro⟨h1,h2,h3,h4⟩
   refine⟨h3,h4,h1,fun f hf=>?_,noTwoB_iff.2 fun i h=>?_⟩
   ·obtain⟨i,hi,rfl⟩:=List.mem_iff_getElem.1 hf
    obtain⟨a1,-,a3,a4⟩:=h2 i hi;obtain⟨b1,b2,b3⟩:=(hpa _).1 a3;exact(hfn _).2 ⟨a1,b1,b2,b3,a4⟩
   ·have hi:i<t.f.length:=by simpa using h
    refine hasT_no fun j hj=>?_;have hj':j<i:=(by simp at hj;omega);have:=(h2 i hi).2.1 j hj'
    simpa using this
  ·rintro⟨h3,h4,h1,h2,h5⟩
   refine⟨h1,fun i hi=>?_,h3,h4⟩;obtain⟨a1,b1,b2,b3,a4⟩:=(hfn _).1 (h2 _ (List.getElem_mem hi));refine⟨a1,fun j hj=>?_,(hpa _).2 ⟨b1,b2,b3⟩,a4⟩;have h6:=noTwoB_iff.1 h5 i (by simpa using hi);cases hq:(t.f[j].n.toList==t.f[i].n.toList) with
   | false=>rfl
   | true =>
    have h7:=hasT_yes (l:=(t.f.map Fu.n).take i) (s:=(t.f.map Fu.n)[i]'(by simpa using hi)) (k:=j) (by simp;omega) (by simpa using hq);rw[h6] at h7;cases h7
 cases ha:progB t <;> cases hb:(decide (t.r.length<=10)&&(decide (t.f.length<=6)&&(t.r.all ruleB&&(t.f.all fnB&&noTwoB (t.f.map Fu.n))))) <;> simp_all
theorem implProgOk_any (t:Pg) (x y:Value) (w:World) (hx:Ul w (uf w) t.r x) (hy:Fl w (uf w) t.f y) (hs:ShPg t) :
  Calls Tryz.prog 17 #[pgV x y] w fun e w'=>e=.returned (.bool (progB t))/\Below w.heap.size w w':=by
 obtain⟨xo,xc,rfl,-⟩:=hx.len;obtain⟨yo,yc,rfl,-⟩:=hy.len;have B0:Below w.heap.size w (w.alloc (.cells #[.slice xo t.r.length xc,.slice yo t.f.length yc] 27)):=(Below.refl _ _).alloc (Nat.le_refl _) _;have HX:=Hid.mk (hx.growU B0);have HY:=Hid.mk (hy.growU B0);have HS:=Hid.mk hs;have HB0:=Hid.mk B0;have HX2:=Hid.mk (MapKept.heap_alloc w (.cells #[.slice xo t.r.length xc,.slice yo t.f.length yc] 27)).1;clear hx hy hs B0;have HR:=Hid.mk (progB_eq t);obtain⟨R,hR⟩:∃ R,progB t=R:=⟨_,rfl⟩;rw[hR] at HR |-;clear hR;obtain⟨n,hn⟩:∃ n,t.r.length=n:=⟨_,rfl⟩;obtain⟨m,hm⟩:∃ n,t.f.length=n:=⟨_,rfl⟩;rw[hn,hm] at HR HX2 HB0 HX HY;rw[hn,hm];have HM:=Hid.mk hm;clear hn hm;go_enter Tryz.func17,Tryz.ntmps17
 by_cases h1:n<=10
 case neg =>
  have hi:¬ ((n:Int)<=10):=(by omega);have HR2:Hid (R=false):=(by have:=HR.out;rw[decide_eq_false h1,Bool.false_and] at this;exact this);go_wp2;go_ret;have hr:=HR2.out;subst hr;exact⟨rfl,HB0.out⟩
 have hi1:(n:Int)<=10:=by omega
 have HR:Hid (R=(decide (m<=6)&&(t.r.all ruleB&&(t.f.all fnB&&noTwoB (t.f.map Fu.n))))):=by have:=HR.out;rw[decide_eq_true h1,Bool.true_and] at this;exact this
 by_cases h2:m<=6
 case neg =>
  have hi:¬ ((m:Int)<=6):=(by omega);have HR2:Hid (R=false):=(by have:=HR.out;rw[decide_eq_false h2,Bool.false_and] at this;exact this);go_wp2;go_ret;have hr:=HR2.out;subst hr;exact⟨rfl,HB0.out⟩
 have hi2:(m:Int)<=6:=by omega
 have HR:Hid (R=(t.r.all ruleB&&(t.f.all fnB&&noTwoB (t.f.map Fu.n)))):=by have:=HR.out;rw[decide_eq_true h2,Bool.true_and] at this;exact this
 go_wp2_with fail
 refine(eachR_any t.r _ _ HX.out HS.out.1).mono ?_;rintro e w1 ⟨rfl,hb1⟩;obtain⟨A,hA⟩:∃ A,t.r.all ruleB=A:=⟨_,rfl⟩;rw[hA] at HR |-;clear hA;have c1:∀ o,w1.cell? ⟨w.heap.size,o,none⟩=#[Value.slice xo n xc,.slice yo m yc][o]?:=fun o=>cell_of_row w1 _ o _ _ (0,0) ((hb1.block _ (by simp)).trans HX2.out);have HY1:=Hid.mk (HY.out.growU hb1);have HB1:Hid (Below w.heap.size w w1):=HB0.out.trans (hb1.mono (by simp));have l1:w.heap.size<w1.heap.size:=by have:=hb1.size;simp at this;omega
 clear hb1;cases A with
 | false =>
  have HR2:Hid (R=false):=(by have:=HR.out;rw[Bool.false_and] at this;exact this);go_wp2;go_ret;have hr:=HR2.out;subst hr;exact⟨rfl,HB1.out⟩
 | true =>
  have HR:Hid (R=(t.f.all fnB&&noTwoB (t.f.map Fu.n))):=(by have:=HR.out;rw[Bool.true_and] at this;exact this);go_wp2_with fail
  refine(eachF_any t.f _ _ HY1.out HS.out.2).mono ?_;rintro e w2 ⟨rfl,hb2⟩;obtain⟨A,hA⟩:∃ A,t.f.all fnB=A:=⟨_,rfl⟩;rw[hA] at HR |-;clear hA;have c2:∀ o,w2.cell? ⟨w.heap.size,o,none⟩=#[Value.slice xo n xc,.slice yo m yc][o]?:=fun o=>(World.cell?_of_block (a:=⟨w.heap.size,o,none⟩) (hb2.block _ l1)).trans (c1 o);have HY2:=Hid.mk (HY1.out.growU hb2);have HB2:Hid (Below w.heap.size w w2):=HB1.out.trans (hb2.mono HB1.out.size);clear hb2 c1;cases A with
  | false =>
   have HR2:Hid (R=false):=(by have:=HR.out;rw[Bool.false_and] at this;exact this);go_wp2;go_ret;have hr:=HR2.out;subst hr;exact⟨rfl,HB2.out⟩
  | true =>
   have HR:Hid (R=noTwoB (t.f.map Fu.n)):=(by have:=HR.out;rw[Bool.true_and] at this;exact this);have HFN:=Hid.mk (fnNames_any t.f _ w2 HY2.out (by rw[HM.out];exact h2));rw[HM.out] at HFN;go_wp2_with fail
   refine HFN.out.mono ?_;rintro e w3 ⟨g,rfl,hg,hb3⟩;have HB3:Hid (Below w.heap.size w w3):=HB2.out.trans (hb3.mono HB2.out.size);have hml:(t.f.map Fu.n).length=m:=(by rw[List.length_map,HM.out]);have HNT:=Hid.mk (noTwoAlike_any (t.f.map Fu.n) (some ⟨g,0,none⟩) m w3 (fun _=>⟨g,0,rfl,hg⟩) (by rw[hml];exact Nat.le_refl _) (by omega));rw[hml] at HNT;clear hml hg hb3 HFN c2;go_wp2_with fail
   refine HNT.out.mono ?_;rintro e w4 ⟨rfl,rfl⟩;obtain⟨A,hA⟩:∃ A,noTwoB (t.f.map Fu.n)=A:=⟨_,rfl⟩;rw[hA] at HR |-;clear hA HNT;go_wp2;go_ret;have hr:=HR.out;subst hr;exact⟨rfl,HB3.out⟩
end Go.Proofs.YtkbijjkgfojchaaGreat
