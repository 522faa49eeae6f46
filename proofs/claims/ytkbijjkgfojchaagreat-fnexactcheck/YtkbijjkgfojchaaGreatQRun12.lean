/- RexText,the document's model's: texts joined. .. -/
import Derived.Test.YtkbijjkgfojchaaGreatQRun11
import Derived.Defers
import Derived.Recover
namespace Go.Proofs.YtkbijjkgfojchaaGreat
set_option maxHeartbeats 2000000
open Go.RowKit
set_option maxRecDepth 8000
theorem ret_s {a b:ByteArray} (h:a=b):Ending.returned (.string a)=.returned (.string b):=by rw[h]
abbrev chr (c:UInt8):ByteArray:=⟨#[c]⟩
theorem par_eq (a:List Int):chr 40++strOf a++chr 41=strOf (40 :: (a++[41])):=by
 rw[show chr 40=strOf [40] from rfl,show chr 41=strOf [41] from rfl,strOf_append,strOf_append];rfl
theorem app_par (x a:List Int):strOf x++chr 40++strOf a++chr 41=strOf (x++(40 :: (a++[41]))):=by
 rw[show chr 40=strOf [40] from rfl,show chr 41=strOf [41] from rfl,strOf_append,strOf_append,strOf_append];simp
def TxtC (t:Tr):Prop:=t.okT=true->t.cnt<=60->∀ (B:Nat->Prop) (v:Value) (w:World),Rl w B t.l v ->
 Calls Tryz.prog 194 #[rx t.k t.s v] w fun e w'=>e=.returned (.string (strOf t.tl))/\Below w.heap.size w w'
theorem l3Join_of (l:List Tr) (bs:List Int) (ih:∀ x∈l,TxtC x/\x.okT=true/\x.cnt<=60) (hj:(jnL bs true l).length<=1000) (hbs:bs.length<=1) (B:Nat->Prop) (v:Value) (w:World) (h:Rl w B l v) :
  Calls Tryz.prog 198 #[v,.string (strOf bs),.int .i64 5] w fun e w'=>e=.returned (.string (strOf (jnL bs true l)))/\Below w.heap.size w w':=by
 obtain⟨ao,cap,rfl,hl1,hl2,hl3⟩:=h.len;have hm:cap<=9223372036854775807:=by unfold maxLen at hl2;omega
 have HI:=Hid.mk ih;have HH:=Hid.mk h;have HLE:=Hid.mk (jnL_le bs l);have hbz:=strOf_size bs;obtain⟨bv,Hbv⟩:∃ bv,Hid (strOf bs=bv):=⟨_,rfl⟩;rw[Hbv.out] at hbz |-;clear ih h hl2;go_enter Tryz.func198,Tryz.ntmps198
 go_wp2;go_loopw [7,8] (fun q i wr=>∃ (k:Nat) (X:ByteArray),k<=l.length/\i=.int .i64 k/\q=.string X/\X.size<=1000/\Hid (X=strOf (jnL bs true (l.take k)))/\Below w.heap.size w wr) (fun _ i _=>l.length-(intOf i).toNat)
 case atStart=>exact⟨0,⟨#[]⟩,Nat.zero_le _,rfl,rfl,by decide,by show _=_;simp[jnL,strOf],Below.refl _ _⟩
 case round =>
  obtain⟨k,X,hk,rfl,rfl,hX,HX,hbel⟩:=hrel;by_cases hkl:k<l.length
  ·obtain⟨b,off,V,rfl,hel⟩:=HH.out.elems (by intro hn;rw[hn] at hkl;simp at hkl)
   obtain⟨h3,hsub,hss⟩:=hel k hkl;have HT:=Hid.mk (jnL_take bs l k hkl);have hle:=HLE.out (k+1);obtain⟨htc,hok,hcn⟩:=HI.out _ (List.getElem_mem hkl);obtain⟨t,ht⟩:∃ t,l[k]=t:=⟨_,rfl⟩;rw[ht] at h3 hsub hss HT htc hok hcn;clear ht hel;have hln:=tl_len t hok;obtain⟨c0,c1,c2⟩:=h3.kept (w':=wr) (hbel.block b (World.block_lt_of_cell? w _ h3.1));have HC:=Hid.mk (htc hok hcn B (V k) wr (hsub.grow hbel));have hsz:=strOf_size t.tl;obtain⟨Y,hY⟩:∃ Y,strOf t.tl=Y:=⟨_,rfl⟩;obtain⟨tk,htk⟩:∃ tk,t.k=tk:=⟨_,rfl⟩;obtain⟨ts,hts⟩:∃ ts,t.s=ts:=⟨_,rfl⟩;obtain⟨av,cv,hv,-,-,-⟩:=hsub.len;have hi1:(k:Int)<(l.length:Int):=(by omega);rw[hY,htk,hts,hv] at HC;rw[htk] at c0;rw[hts] at c1;rw[hv] at c2;rw[hY] at hsz;have hY2:Y.size<=1000:=(by omega);have HNS:Hid (∀ Z,Z=strOf (jnL bs true (l.take (k+1)))->Z.size<=1000):=by
    intro Z hZ;rw[hZ,strOf_size];omega
   clear hsub hss h3 htc hok hcn hln hts hle hv hsz;by_cases h5:tk=5
   ·have h5b:(tk==5)=true:=by simpa using h5
    have HP:Hid (pcC t=40 :: (t.tl++[41])):=(by show _=_;rw[pcC,if_pos (by omega)]);by_cases k0:k=0
    ·subst k0
     simp only[Nat.zero_mul,Nat.add_zero] at c0 c1 c2;have HQ:Hid (X++chr 40++Y++chr 41=strOf (jnL bs true (l.take (0+1)))):=by
      show _=_
      rw[HX.out,<- hY,app_par,HT.out,HP.out];rfl
     have hns:=HNS.out _ HQ.out;clear HX HT HP hY HNS h5 HLE HI HH htk;go_wp2_with fail
     refine HC.out.mono ?_;rintro e w2 ⟨rfl,hb2⟩;have B3:=hbel.trans (hb2.mono hbel.size);clear hbel hb2 HC;go_wp2;go_roundw
     case rel=>exact⟨0+1,_,by omega,by go_num,rfl,hns,HQ,B3⟩
     case measure=>simp[intOf];omega
    ·have k0':0<k:=by omega
     have HQ:Hid (X++bv++chr 40++Y++chr 41=strOf (jnL bs true (l.take (k+1)))):=by
      show _=_
      rw[HX.out,<- hY,<- Hbv.out,strOf_append,app_par,HT.out,HP.out,if_neg k0];simp
     have hns:=HNS.out _ HQ.out;clear HX HT HP hY HNS h5 HLE HI HH htk k0;go_wp2_with fail
     refine HC.out.mono ?_;rintro e w2 ⟨rfl,hb2⟩;have B3:=hbel.trans (hb2.mono hbel.size);clear hbel hb2 HC;go_wp2;go_roundw
     case rel=>exact⟨k+1,_,by omega,by go_num,rfl,hns,HQ,B3⟩
     case measure=>simp[intOf];omega
   ·have h5b:(tk==5)=false:=by simpa using h5
    have HP:Hid (pcC t=t.tl):=(by show _=_;rw[pcC,if_neg (by omega)]);by_cases k0:k=0
    ·subst k0
     simp only[Nat.zero_mul,Nat.add_zero] at c0 c1 c2;have HQ:Hid (X++Y=strOf (jnL bs true (l.take (0+1)))):=by
      show _=_
      rw[HX.out,<- hY,strOf_append,HT.out,HP.out];rfl
     have hns:=HNS.out _ HQ.out;clear HX HT HP hY HNS h5 HLE HI HH htk;go_wp2_with fail
     refine HC.out.mono ?_;rintro e w2 ⟨rfl,hb2⟩;have B3:=hbel.trans (hb2.mono hbel.size);clear hbel hb2 HC;go_wp2;go_roundw
     case rel=>exact⟨0+1,_,by omega,by go_num,rfl,hns,HQ,B3⟩
     case measure=>simp[intOf];omega
    ·have k0':0<k:=by omega
     have HQ:Hid (X++bv++Y=strOf (jnL bs true (l.take (k+1)))):=by
      show _=_
      rw[HX.out,<- hY,<- Hbv.out,strOf_append,strOf_append,HT.out,HP.out,if_neg k0];simp
     have hns:=HNS.out _ HQ.out;clear HX HT HP hY HNS h5 HLE HI HH htk k0;go_wp2_with fail
     refine HC.out.mono ?_;rintro e w2 ⟨rfl,hb2⟩;have B3:=hbel.trans (hb2.mono hbel.size);clear hbel hb2 HC;go_wp2;go_roundw
     case rel=>exact⟨k+1,_,by omega,by go_num,rfl,hns,HQ,B3⟩
     case measure=>simp[intOf];omega
  ·have e:k=l.length:=by omega
   subst e;have HF:Hid (X=strOf (jnL bs true l)):=(by show _=_;rw[HX.out,List.take_length]);clear HX;go_wp2;go_ret;exact⟨ret_s HF.out,hbel⟩
theorem l3One_of (t:Tr) (ih:TxtC t) (hok:t.okT=true) (hcn:t.cnt<=60) (B:Nat->Prop) (v:Value) (w:World) (h:Rl w B t.l v) :
  Calls Tryz.prog 199 #[rx t.k t.s v] w fun e w'=>e=.returned (.string (strOf (pcO t)))/\Below w.heap.size w w':=by
 have hln:=tl_len t hok;have hsz:=strOf_size t.tl;have HC:=Hid.mk (fun(w':World) (hb:Below w.heap.size w w')=>ih hok hcn B v w' (h.grow hb));obtain⟨R,hR⟩:∃ R,strOf (pcO t)=R:=⟨_,rfl⟩;have HY1:Hid ((t.k=4\/t.k=5)->chr 40++strOf t.tl++chr 41=R):=by intro h;rw[<- hR,pcO,if_pos h,par_eq]
 have HY0:Hid (¬ (t.k=4\/t.k=5)->strOf t.tl=R):=by intro h;rw[<- hR,pcO,if_neg h]
 obtain⟨Y,hY⟩:∃ Y,strOf t.tl=Y:=⟨_,rfl⟩;obtain⟨k,hk⟩:∃ k,t.k=k:=⟨_,rfl⟩;obtain⟨s,hsn⟩:∃ s,t.s=s:=⟨_,rfl⟩;rw[hY] at hsz;have hY2:Y.size<=1000:=by omega
 rw[hk,hsn,hY] at HC;rw[hk,hY] at HY1 HY0;rw[hk,hsn,hR];obtain⟨ao,cap,rfl,hl1,hl2,hl3⟩:=h.len;have B0:Below w.heap.size w (w.alloc (.cells #[.int .i64 k,.string s,.slice ao t.l.length cap] 258)):=(Below.refl _ _).alloc (Nat.le_refl _) _;clear h hk hsn hY hR hl2 ih hok hcn hln hsz;by_cases h4:k=4
 ·subst h4
  have HR:=Hid.mk (HY1.out (Or.inl rfl));clear HY1 HY0;go_enter Tryz.func199,Tryz.ntmps199
  go_wp2_with fail
  refine(HC.out _ B0).mono ?_;rintro e w1 ⟨rfl,hb1⟩;have B1:=B0.trans (hb1.mono (by simp));clear B0 hb1 HC;go_wp2;go_ret;exact⟨ret_s HR.out,B1⟩
 have h4b:(k==4)=false:=by simpa using h4
 by_cases h5:k=5
 ·subst h5
  have HR:=Hid.mk (HY1.out (Or.inr rfl));clear HY1 HY0 h4;go_enter Tryz.func199,Tryz.ntmps199
  go_wp2_with fail
  refine(HC.out _ B0).mono ?_;rintro e w1 ⟨rfl,hb1⟩;have B1:=B0.trans (hb1.mono (by simp));clear B0 hb1 HC;go_wp2;go_ret;exact⟨ret_s HR.out,B1⟩
 have h5b:(k==5)=false:=by simpa using h5
 have HR:=Hid.mk (HY0.out (by omega));clear HY1 HY0 h4 h5;go_enter Tryz.func199,Tryz.ntmps199
 go_wp2_with fail
 refine(HC.out _ B0).mono ?_;rintro e w1 ⟨rfl,hb1⟩;have B1:=B0.trans (hb1.mono (by simp));clear B0 hb1 HC;go_wp2;go_ret;exact⟨ret_s HR.out,B1⟩
theorem txt_step (t:Tr) (ih:∀ x∈t.l,TxtC x):TxtC t:=by
 intro hok hcn B v w h;have hpart:∀ x∈t.l,TxtC x/\x.okT=true/\x.cnt<=60:=fun x hx=>⟨ih x hx,part_ok hok hcn hx⟩;have hln:=tl_len t hok;have hnb:nodeB t=true:=by rw[okT_eq,Bool.and_eq_true] at hok;exact hok.2
 have B0:Below w.heap.size w (w.alloc (.cells #[.int .i64 t.k,.string t.s,v] 258)):=(Below.refl _ _).alloc (Nat.le_refl _) _;obtain⟨ao,cap,hv,hl1,hl2,hl3⟩:=h.len;have HK:Hid (¬ (t.k<1\/11<t.k)):=by intro hk;rw[nodeBx hk] at hnb;cases hnb
 have HJ4:Hid (t.k=4->∀ w',Below w.heap.size w w'->Calls Tryz.prog 198 #[v,.string ⟨#[]⟩,.int .i64 5] w' fun e w''=>e=.returned (.string (strOf t.tl))/\Below w'.heap.size w' w''):=by
  intro h4 w' hb;have:=l3Join_of t.l [] hpart (by rw[jnL_C,<- tl4 h4];omega) (by simp) B v w' (h.grow hb);rw[jnL_C,<- tl4 h4] at this;exact this
 have HJ5:Hid (t.k=5->∀ w',Below w.heap.size w w'->Calls Tryz.prog 198 #[v,.string ⟨#[124]⟩,.int .i64 5] w' fun e w''=>e=.returned (.string (strOf t.tl))/\Below w'.heap.size w' w''):=by
  intro h5 w' hb;have hkd:kinds t.l 5=false:=by
   rw[nodeB4 (Or.inr h5),h5] at hnb;simp only[Bool.and_eq_true,Bool.not_eq_true'] at hnb;exact hnb.2
  have:=l3Join_of t.l [124] hpart (by rw[jnL_A _ _ hkd,<- tl5 h5];omega) (by simp) B v w' (h.grow hb);rw[jnL_A _ _ hkd,<- tl5 h5] at this;exact this
 have HO:Hid ((t.k=6\/t.k=7\/t.k=8)->∃ x b off V,t.l=[x]/\v=.slice (some ⟨b,off,none⟩) 1 cap/\At3 w b off x.k x.s V/\(∃ av cv,V=.slice av x.l.length cv)/\(strOf (pcO x)).size<=1000/\strOf (pcO x)++chr (UInt8.ofNat (markOf t.k).toNat)=strOf t.tl /\
   ∀ w',Below w.heap.size w w'->Calls Tryz.prog 199 #[rx x.k x.s V] w' fun e w''=>e=.returned (.string (strOf (pcO x)))/\Below w'.heap.size w' w''):=by
  intro h6;rw[nodeB6 h6] at hnb;simp at hnb;obtain⟨x,hx⟩:=List.length_eq_one_iff.1 hnb.1.2;rw[hx] at h hv;subst hv;obtain⟨b,off,V,hao,hel⟩:=h.elems (by simp);obtain⟨h3,hsub,hss⟩:=hel 0 (by simp);obtain⟨i1,i2,i3⟩:=hpart x (by rw[hx];simp);have e:=tl6 h6;rw[hx,tlO_cons] at e;obtain⟨av,cv,hvv,-,-,-⟩:=hsub.len;refine⟨x,b,off,V 0,hx,by rw[hao];rfl,by simpa using h3,⟨av,cv,hvv⟩,?_,?_,fun w' hb=>l3One_of x i1 i2 i3 B (V 0) w' (hsub.grow hb)⟩
  ·rw[strOf_size]
   rw[e,List.length_append] at hln;omega
  ·rw[e,<- strOf_append];rfl
 have H1:=Hid.mk (fun h=>(tl1 (t:=t) h).trans rfl);have H2:=Hid.mk (fun h=>tl2 (t:=t) h);have H3:=Hid.mk (fun h=>tl3 (t:=t) h);have H9:=Hid.mk (fun h=>tl9 (t:=t) h);have H10:=Hid.mk (fun h=>tl10 (t:=t) h);have H11:=Hid.mk (fun h=>tl11 (t:=t) h);have HSZ:Hid (t.k=3->t.s.size<=10):=by
  intro h3;rw[nodeB3 h3] at hnb;simp[setB] at hnb;exact hnb.1.1.2
 obtain⟨k,hk⟩:∃ k,t.k=k:=⟨_,rfl⟩;obtain⟨s,hsn⟩:∃ s,t.s=s:=⟨_,rfl⟩;obtain⟨T,hT⟩:∃ T,t.tl=T:=⟨_,rfl⟩;rw[hk,hsn] at B0;rw[hk] at HK H2 H9 H10 H11;rw[hk,hsn,hT] at H1 H3;rw[hT] at H2 H9 H10 H11;rw[hk,hT] at HJ4 HJ5 HO;rw[hk,hsn] at HSZ;rw[hk,hsn,hT];clear hpart hln hnb hok hcn ih hk hsn hT;by_cases h6:k=6\/k=7\/k=8
 ·obtain⟨x,b,off,V,hxl,hvv,h3,⟨av,cv,rfl⟩,hsz,hcat,hone⟩:=HO.out h6
  subst hvv;have h3':=h3.grow B0;obtain⟨xk,hxk⟩:∃ xk,x.k=xk:=⟨_,rfl⟩;obtain⟨xs,hxs⟩:∃ xs,x.s=xs:=⟨_,rfl⟩;obtain⟨Y,hY⟩:∃ Y,strOf (pcO x)=Y:=⟨_,rfl⟩;rw[hxk,hxs] at h3' hone;rw[hY] at hone hsz hcat;obtain⟨c0,c1,c2⟩:=h3';have HC:=Hid.mk hone;have HCAT:=Hid.mk hcat;clear hone hcat hv h hl1 hl2 hl3 HO HJ4 HJ5 H1 H2 H3 H9 H10 H11 HSZ HK hxl h3 hxk hxs hY;rcases h6 with rfl | rfl | rfl;all_goals
   go_enter Tryz.func194,Tryz.ntmps194
   go_wp2_with fail
   refine(HC.out _ B0).mono ?_;rintro e w1 ⟨rfl,hb1⟩;have B1:=B0.trans (hb1.mono (by simp));clear B0 hb1 HC;go_wp2;go_ret;exact⟨ret_s HCAT.out,B1⟩
 subst hv;clear HO;by_cases h1:k=1
 ·subst h1
  have HR:Hid (s=strOf T):=(by show _=_;rw[H1.out rfl,strOf_txt]);clear HJ4 HJ5 H1 H2 H3 H9 H10 H11 HSZ HK h h6;go_enter Tryz.func194,Tryz.ntmps194
  go_wp2;go_ret;exact⟨ret_s HR.out,B0⟩
 by_cases h2:k=2
 ·subst h2
  have HR:Hid (chr 46=strOf T):=(by show _=_;rw[H2.out rfl];rfl);clear HJ4 HJ5 H1 H2 H3 H9 H10 H11 HSZ HK h h6 h1;go_enter Tryz.func194,Tryz.ntmps194
  go_wp2;go_ret;exact⟨ret_s HR.out,B0⟩
 by_cases h3:k=3
 ·subst h3
  have hz:=HSZ.out rfl;have HR:Hid (chr 91++s++chr 93=strOf T):=by
   show _=_
   rw[H3.out rfl,show chr 91=strOf [91] from rfl,show chr 93=strOf [93] from rfl]
   conv=>lhs;rw[<- strOf_txt s,strOf_append,strOf_append]
   rfl
  clear HJ4 HJ5 H1 H2 H3 H9 H10 H11 HSZ HK h h6 h1 h2;go_enter Tryz.func194,Tryz.ntmps194
  go_wp2;go_ret;exact⟨ret_s HR.out,B0⟩
 by_cases h4:k=4
 ·subst h4
  have HC:=Hid.mk (HJ4.out rfl);clear HJ4 HJ5 H1 H2 H3 H9 H10 H11 HSZ HK h h6 h1 h2 h3;go_enter Tryz.func194,Tryz.ntmps194
  go_wp2_with fail
  refine(HC.out _ B0).mono ?_;rintro e w1 ⟨rfl,hb1⟩;have B1:=B0.trans (hb1.mono (by simp));clear B0 hb1 HC;go_wp2;go_ret;exact⟨rfl,B1⟩
 by_cases h5:k=5
 ·subst h5
  have HC:=Hid.mk (HJ5.out rfl);clear HJ4 HJ5 H1 H2 H3 H9 H10 H11 HSZ HK h h6 h1 h2 h3 h4;go_enter Tryz.func194,Tryz.ntmps194
  go_wp2_with fail
  refine(HC.out _ B0).mono ?_;rintro e w1 ⟨rfl,hb1⟩;have B1:=B0.trans (hb1.mono (by simp));clear B0 hb1 HC;go_wp2;go_ret;exact⟨rfl,B1⟩
 by_cases h10:k=10
 ·subst h10
  have HR:Hid (chr 94=strOf T):=(by show _=_;rw[H10.out rfl];rfl);clear HJ4 HJ5 H1 H2 H3 H9 H10 H11 HSZ HK h h6 h1 h2 h3 h4 h5;go_enter Tryz.func194,Tryz.ntmps194
  go_wp2;go_ret;exact⟨ret_s HR.out,B0⟩
 by_cases h11:k=11
 ·subst h11
  have HR:Hid (chr 36=strOf T):=(by show _=_;rw[H11.out rfl];rfl);clear HJ4 HJ5 H1 H2 H3 H9 H10 H11 HSZ HK h h6 h1 h2 h3 h4 h5 h10;go_enter Tryz.func194,Tryz.ntmps194
  go_wp2;go_ret;exact⟨ret_s HR.out,B0⟩
 have h9:k=9:=by have:=HK.out;omega
 subst h9;have HR:Hid ((⟨#[40,41]⟩:ByteArray)=strOf T):=by show _=_;rw[H9.out rfl];rfl
 clear HJ4 HJ5 H1 H2 H3 H9 H10 H11 HSZ HK h h6 h1 h2 h3 h4 h5 h10 h11;go_enter Tryz.func194,Tryz.ntmps194
 go_wp2;go_ret;exact⟨ret_s HR.out,B0⟩
theorem specText_any (t:Tr):TxtC t:=Tr.ind (P:=TxtC) txt_step t
theorem specRexText_any (t:Tr) (B:Nat->Prop) (v:Value) (w:World) (h:Rl w B t.l v) (hs:t.s.size<=maxLen) :
  Calls Tryz.prog 190 #[rx t.k t.s v] w fun e w'=>e=.returned (.string (rexS t))/\Below w.heap.size w w':=by
 have HC:=Hid.mk (fun(w':World) (hb:Below w.heap.size w w')=>specRexOk_any t B v w' (h.grow hb) hs);have HT:=Hid.mk (fun h1 h2 (w':World) (hb:Below w.heap.size w w')=>specText_any t h1 h2 B v w' (h.grow hb));have HI:=Hid.mk (okR_iff t);have HE:Hid (rexS t=if okR t=true then strOf t.tl else ⟨#[]⟩):=rfl;obtain⟨R,hR⟩:∃ R,rexS t=R:=⟨_,rfl⟩;obtain⟨o,ho⟩:∃ o,okR t=o:=⟨_,rfl⟩;obtain⟨k,hk⟩:∃ k,t.k=k:=⟨_,rfl⟩;obtain⟨s,hsn⟩:∃ s,t.s=s:=⟨_,rfl⟩;rw[hk,hsn,ho] at HC;rw[hk,hsn] at HT;rw[ho] at HI;rw[hR,ho] at HE;rw[hk,hsn,hR];obtain⟨ao,cap,rfl,hl1,hl2,hl3⟩:=h.len;have B0:Below w.heap.size w (w.alloc (.cells #[.int .i64 k,.string s,.slice ao t.l.length cap] 258)):=(Below.refl _ _).alloc (Nat.le_refl _) _;clear h hk hsn hR ho hl2;cases o with
 | false =>
  have HR:Hid ((⟨#[]⟩:ByteArray)=R):=(by show _=_;rw[HE.out];rfl);clear HT HI HE;go_enter Tryz.func190,Tryz.ntmps190
  go_wp2_with fail
  refine(HC.out _ B0).mono ?_;rintro e w1 ⟨rfl,hb1⟩;have B1:=B0.trans (hb1.mono (by simp));clear B0 hb1 HC;go_wp2;go_ret;exact⟨ret_s HR.out,B1⟩
 | true =>
  have HR:Hid (strOf t.tl=R):=(by show _=_;rw[HE.out];rfl);obtain⟨i1,i2,i3⟩:=HI.out.1 rfl;have HT':=Hid.mk (HT.out i3 i2);rw[HR.out] at HT';clear HT HI HE i1 i2 i3 HR;go_enter Tryz.func190,Tryz.ntmps190
  go_wp2_with fail
  refine(HC.out _ B0).mono ?_;rintro e w1 ⟨rfl,hb1⟩;have B1:=B0.trans (hb1.mono (by simp));have hc1:=fun o=>hb1.cell (p:=⟨w.heap.size,o,none⟩) (by simp);have hs1:=hb1.size;simp at hs1;clear B0 hb1 HC;go_wp2_with fail
  refine(HT'.out _ B1).mono ?_;rintro e w2 ⟨rfl,hb2⟩;have B2:=B1.trans (hb2.mono (by omega));clear B1 hb2 HT' hc1;go_wp2;go_ret;exact⟨rfl,B2⟩
theorem implRexText_any (t:Tr) (B:Nat->Prop) (v:Value) (w:World) (h:Rl w B t.l v) (hs:t.s.size<=maxLen) :
  Calls Tryz.prog 258 #[rx t.k t.s v] w fun e w'=>e=.returned (.string (rexS t))/\Below w.heap.size w w':=by
 have HC:=Hid.mk (fun(w':World) (hb:Below w.heap.size w w')=>implRexOk_any t B v w' (h.grow hb) hs);have HT:Hid (okR t=true->∀ (w':World),Below w.heap.size w w'->Calls Tryz.prog 263 #[.slice none 0 0,rx t.k t.s v] w' fun e w''=>∃ b',e=.returned b'/\Own w'' w'.heap.size b' t.tl/\Below w'.heap.size w' w''):=by
  intro ho w' hb;obtain⟨i1,i2,i3⟩:=(okR_iff t).1 ho;have hl:=tl_len t i3;have hg:=(h.grow hb).imp (C:=fun b=>b<w'.heap.size) (fun b _ hb=>hb);have hown:Own w' w'.heap.size (.slice none 0 0) []:=World.ownsRow_nil _ _ _ _;refine(app_any t i3 i2 w'.heap.size _ (.slice none 0 0) v [] w' hown (Nat.le_refl _) (by simp;omega) hg (fun k hk=>⟨hk,by simp[Value.ownBlock]⟩)).mono ?_;rintro e w'' ⟨b',rfl,ho',hn'⟩;exact⟨b',rfl,by simpa using ho',hn'.below hown (Nat.le_refl _)⟩
 have HBY:=Hid.mk (tl_byte t);have HE:Hid (rexS t=if okR t=true then strOf t.tl else ⟨#[]⟩):=rfl;obtain⟨R,hR⟩:∃ R,rexS t=R:=⟨_,rfl⟩;obtain⟨o,ho⟩:∃ o,okR t=o:=⟨_,rfl⟩;obtain⟨k,hk⟩:∃ k,t.k=k:=⟨_,rfl⟩;obtain⟨s,hsn⟩:∃ s,t.s=s:=⟨_,rfl⟩;obtain⟨T,hT⟩:∃ T,t.tl=T:=⟨_,rfl⟩;rw[hk,hsn,ho] at HC;rw[hk,hsn,hT,ho] at HT;rw[hR,ho,hT] at HE;rw[hT] at HBY;rw[hk,hsn,hR];obtain⟨ao,cap,rfl,hl1,hl2,hl3⟩:=h.len;have B0:Below w.heap.size w (w.alloc (.cells #[.int .i64 k,.string s,.slice ao t.l.length cap] 258)):=(Below.refl _ _).alloc (Nat.le_refl _) _;clear h hk hsn hR ho hl2 hT;cases o with
 | false =>
  have HR:Hid ((⟨#[]⟩:ByteArray)=R):=(by show _=_;rw[HE.out];rfl);clear HT HE;go_enter Tryz.func258,Tryz.ntmps258
  go_wp2_with fail
  refine(HC.out _ B0).mono ?_;rintro e w1 ⟨rfl,hb1⟩;have B1:=B0.trans (hb1.mono (by simp));clear B0 hb1 HC;go_wp2;go_ret;exact⟨ret_str' HR.out,B1⟩
 | true =>
  have HR:Hid (strOf T=R):=(by show _=_;rw[HE.out];rfl);have HT':=Hid.mk (HT.out rfl);clear HT HE;go_enter Tryz.func258,Tryz.ntmps258
  go_wp2_with fail
  refine(HC.out _ B0).mono ?_;rintro e w1 ⟨rfl,hb1⟩;have B1:=B0.trans (hb1.mono (by simp));have hc1:=fun o=>hb1.cell (p:=⟨w.heap.size,o,none⟩) (by simp);have hs1:=hb1.size;simp at hs1;clear B0 hb1 HC;go_wp2_with fail
  refine(HT'.out _ B1).mono ?_;rintro e w2 ⟨b2,rfl,ho2,hb2⟩;have B2:=B1.trans (hb2.mono (by omega));have hcv:=run_strOf_any (ho2.bs HBY.out);clear B1 hb2 HT' hc1 ho2;go_wp2;go_ret;exact⟨ret_str' HR.out,B2⟩
def IsTx (s:ByteArray) (t:Tr):Prop:=okR t=true/\t.tl=txt s
theorem IsTx.size {s:ByteArray} {t:Tr} (h:IsTx s t):s.size<=779:=by
 obtain⟨hd,hc,ho⟩:=(okR_iff t).1 h.1;have:=tl_len t ho;rw[h.2,txt_length] at this;omega
theorem IsTx.text {s:ByteArray} {t:Tr} (h:IsTx s t):rexS t=s:=by
 unfold rexS;rw[if_pos h.1,h.2,strOf_txt]
theorem IsTx.read {s:ByteArray} {t:Tr} (h:IsTx s t) (n:Nat) (hn:6<=n):rd n (txt s)=some (t,[]):=by rw[<- h.2];exact rd_back n hn t h.1
theorem rd_nil (n:Nat):rd n []=none:=by
 cases n with
 | zero=>rfl
 | succ n=>rfl
theorem not_text {s:ByteArray} (hno:∀ t,¬ IsTx s t) {n:Nat} {t:Tr} {q:List Int} (h:rd n (txt s)=some (t,q)):rexS t≠s:=by
 intro e;unfold rexS at e;split at e
 ·rename_i ho
  refine hno t ⟨ho,?_⟩;rw[<- e,txt_strOf (tl_byte t)]
 ·have:txt s=[]:=by rw[<- e];rfl
  rw[this,rd_nil] at h;cases h
abbrev rdW (w:World) (s:ByteArray):World:=(w.alloc (.cells #[.int .i64 0,.string ⟨#[]⟩,.slice none 0 0] 258)).alloc (.cells #[.string s,.int .i64 0] 294)
theorem rdW_rds (w:World) (s:ByteArray):Rds (rdW w s) (w.heap.size+1) s 0:=by
 have:=heap_alloc_new (w.alloc (.cells #[.int .i64 0,.string ⟨#[]⟩,.slice none 0 0] 258)) (.cells #[.string s,.int .i64 0] 294);rw[show(w.alloc (.cells #[.int .i64 0,.string ⟨#[]⟩,.slice none 0 0] 258)).heap.size=w.heap.size+1 by simp] at this;exact this
theorem rdW_bx (w:World) (s:ByteArray):Bx3 (rdW w s) w.heap.size (.int .i64 0) (.string ⟨#[]⟩) (.slice none 0 0):=(Bx3.new w (.int .i64 0) (.string ⟨#[]⟩) (.slice none 0 0)).kept (((Below.refl _ _).alloc (Nat.le_refl _) _).block _ (Bx3.new w (.int .i64 0) (.string ⟨#[]⟩) (.slice none 0 0)).lt)
theorem rdW_below (w:World) (s:ByteArray):Below w.heap.size w (rdW w s):=((Below.refl _ _).alloc (Nat.le_refl _) _).alloc (by simp) _
theorem below_gb {w w' w'':World} {R:Nat} (h:Below w.heap.size w w') (hg:w'.grownBy w'' (some R)) (hR:w.heap.size<=R):Below w.heap.size w w'':=h.grown hg h.size (fun k hk=>by simp at hk;omega)
theorem readRex_yes (s:ByteArray) (t:Tr) (w:World) (h:IsTx s t) :
  Calls Tryz.prog 256 #[.string s] w fun e w'=>∃ u,e=.returned (rx t.k t.s u)/\Ow w' (newFrom w.heap.size) t.l u/\t.s.size<=maxLen/\Below w.heap.size w w':=by
 have hz:=h.size;have HRd:=Hid.mk (choices_any 1000 s (w.heap.size+1) 0 (rdW w s) (rdW_rds w s) (Nat.zero_le _) (by omega) (by omega));have HQ:=Hid.mk (h.read 1000 (by omega));have HTX:=Hid.mk h.text;have HB0:=Hid.mk (rdW_bx w s);have HBel:=Hid.mk (rdW_below w s);have HIT:=Hid.mk (fun(w':World) (B:Nat->Prop) (u:Value) (h1:Rl w' B t.l u) (h2:t.s.size<=maxLen)=>implRexText_any t B u w' h1 h2);have h780:¬ (780:Int)<(s.size:Int):=by omega
 have hss:(s.toList != s.toList)=false:=by simp
 clear h;go_enter Tryz.func256,Tryz.ntmps256
 go_wp2_with fail
 refine HRd.out.mono ?_;rintro e w1 ⟨hg1,hcase⟩;rw[List.drop_zero,HQ.out] at hcase;rcases hcase with⟨hr0,_⟩ | ⟨t1,q,u,p1,hrd,rfl,hp1,hp2,hq,hr1,hsz,how⟩
 ·cases hr0
 injection hrd with hrd
 injection hrd with ht1 hq1
 subst ht1;obtain⟨au,cu,rfl⟩:=how.value;have hbw:Below w1.heap.size w1 (w1.alloc (.cells #[.int .i64 t.k,.string t.s,.slice au t.l.length cu] 258)):=(Below.refl _ _).alloc (Nat.le_refl _) _;have hs1:w.heap.size+2<=w1.heap.size:=by have:=hg1.size;simpa using this
 have HB1:=Hid.mk ((HB0.out.gb hg1 (by omega)).kept (hbw.block _ (HB0.out.gb hg1 (by omega)).lt));have HBel1:=Hid.mk ((below_gb HBel.out hg1 (by omega)).trans (hbw.mono (by omega)));have HX1:=Hid.mk (Bx3.new w1 (.int .i64 t.k) (.string t.s) (.slice au t.l.length cu));have HO1:=Hid.mk ((how.grow hbw).mono (C:=newFrom (w.heap.size+1)) (fun b hb=>by unfold newFrom at *;simp at hb;omega));have HT:=Hid.mk (HIT.out _ _ _ HO1.out.rl hsz);have HSZ:=Hid.mk hsz;rw[HTX.out] at HT;obtain⟨tk,htk⟩:∃ tk,t.k=tk:=⟨_,rfl⟩;obtain⟨ts,hts⟩:∃ ts,t.s=ts:=⟨_,rfl⟩;rw[htk,hts] at HB1 HBel1 HX1 HO1 HT;rw[htk,hts] at |-;have HTK:=Hid.mk htk;have HTS:=Hid.mk hts;clear HRd HQ HB0 HBel HIT hg1 hq hr1 hsz how hbw htk hts hq1 HTX hp1 hp2;go_wp2_with fail
 refine HT.out.mono ?_;rintro e w3 ⟨rfl,hb3⟩;have HB3:=Hid.mk (HB1.out.kept (hb3.block _ HB1.out.lt));have HX3:=Hid.mk (HX1.out.kept (hb3.block _ HX1.out.lt));have HO3:=Hid.mk (HO1.out.grow hb3);have HBel3:=Hid.mk (HBel1.out.trans (hb3.mono HBel1.out.size));have c0:=HB3.out.c0;have c1:=HB3.out.c1;have c2:=HB3.out.c2;have f0:=HB3.out.fr;have x0:=HX3.out.c0;have x1:=HX3.out.c1;have x2:=HX3.out.c2;clear HT hb3 HB1 HX1 HO1 HBel1;go_wp2;have hput:=HB3.out.put (.int .i64 tk) (.string ts) (.slice au t.l.length cu);have hop:=HO3.out.set3 (b:=w.heap.size) (by unfold newFrom;omega) (.int .i64 tk) (.string ts) (.slice au t.l.length cu);have hbp:Below w.heap.size w (set3 w3 w.heap.size (.int .i64 tk) (.string ts) (.slice au t.l.length cu)):=((HBel3.out.setCell (Nat.le_refl _) _).setCell (Nat.le_refl _) _).setCell (Nat.le_refl _) _;unfold set3 at hput hop hbp;generalize ((w3.setCell ⟨w.heap.size,0,none⟩ (.int .i64 tk)).setCell ⟨w.heap.size,1,none⟩ (.string ts)).setCell ⟨w.heap.size,2,none⟩ (.slice au t.l.length cu)=W at hput hop hbp |-;have r0:=hput.c0;have r1:=hput.c1;have r2:=hput.c2;refine bodyPost_ret (v:=rx tk ts (.slice au t.l.length cu)) ?_ rfl ⟨_,by first | rfl | (rw[HTK.out,HTS.out]),hop.mono (fun b hb=>by unfold newFrom at *;omega),by first | exact HSZ.out | (rw[<- HTS.out];exact HSZ.out),hbp⟩;simp[results,Tryz.results256,go_sem,r0,r1,r2]
theorem readRex_no (s:ByteArray) (w:World) (hs:s.size<=1048576) (hno:∀ t,¬ IsTx s t) :
  Calls Tryz.prog 256 #[.string s] w fun e w'=>e=.panicked nope/\Below w.heap.size w w':=by
 by_cases h780:(780:Int)<(s.size:Int)
 ·clear hno
  go_enter Tryz.func256,Tryz.ntmps256
  go_wp2;exact⟨rfl,rfl,(Below.refl _ _).alloc (Nat.le_refl _) _⟩
 have HRd:=Hid.mk (choices_any 1000 s (w.heap.size+1) 0 (rdW w s) (rdW_rds w s) (Nat.zero_le _) (by omega) (by omega));have HNO:=Hid.mk (fun t q (h:rd 1000 (txt s)=some (t,q))=>not_text hno h);have HBel:=Hid.mk (rdW_below w s);clear hno;go_enter Tryz.func256,Tryz.ntmps256
 go_wp2_with fail
 refine HRd.out.mono ?_;rintro e w1 ⟨hg1,⟨hr0,rfl⟩ | ⟨t,q,u,p1,hrd,rfl,hp1,hp2,hq,hr1,hsz,how⟩⟩
 ·exact⟨rfl,rfl,below_gb HBel.out hg1 (by omega)⟩
 rw[List.drop_zero] at hrd;have hneq:=HNO.out _ _ hrd;have hss:((rexS t).toList==s.toList)=false:=by
  rw[beq_eq_false_iff_ne];intro e;apply hneq
  apply ByteArray.ext
  apply Array.toList_inj.1
  rw[<- ByteArray.toList_eq,<- ByteArray.toList_eq];exact e
 obtain⟨au,cu,rfl⟩:=how.value;have hbw:Below w1.heap.size w1 (w1.alloc (.cells #[.int .i64 t.k,.string t.s,.slice au t.l.length cu] 258)):=(Below.refl _ _).alloc (Nat.le_refl _) _;have hs1:w.heap.size+2<=w1.heap.size:=by have:=hg1.size;simpa using this
 have HBel1:=Hid.mk ((below_gb HBel.out hg1 (by omega)).trans (hbw.mono (by omega)));have HT:=Hid.mk (implRexText_any t _ _ _ (how.grow hbw).rl hsz);obtain⟨RT,hRT⟩:∃ RT,rexS t=RT:=⟨_,rfl⟩;obtain⟨tk,htk⟩:∃ tk,t.k=tk:=⟨_,rfl⟩;obtain⟨ts,hts⟩:∃ ts,t.s=ts:=⟨_,rfl⟩;rw[hRT,htk,hts] at HT;rw[hRT] at hss;rw[htk,hts] at HBel1;rw[htk,hts];clear HRd HNO HBel hg1 hrd hneq hq hr1 hsz how hbw hRT htk hts hp1 hp2;go_wp2_with fail
 refine HT.out.mono ?_;rintro e w3 ⟨rfl,hb3⟩;have HBel3:=Hid.mk (HBel1.out.trans (hb3.mono HBel1.out.size));clear HT hb3 HBel1;go_wp2;exact⟨rfl,rfl,HBel3.out⟩
theorem catch_panics (older:List PanicEntry) (v:Value) (T:TypeId) (w:World) :
  CallsD Tryz.prog 255 #[] (.panicking ({ v:=.iface T v,recovered:=false } :: older)) w fun e u' w' =>
   e=.returned (.tuple #[])/\u'=.panicking ({ v:=.iface T v,recovered:=true } :: older)/\w'=w:=by
 refine callsD_of_wpS Tryz.func255 rfl fun c₀ cs hu=>?_;apply wpS_region
 simp[wpOpsS,go_sem,recoverD,hu,Tryz.ntmps255,bodyPostS,results,Tryz.results255]
theorem catch_idle (w:World) :
  CallsD Tryz.prog 255 #[] .returning w fun e u' w'=>e=.returned (.tuple #[])/\u'=.returning/\w'=w:=by
 refine callsD_of_wpS Tryz.func255 rfl fun c₀ cs hu=>?_;apply wpS_region
 simp[wpOpsS,go_sem,recoverD,hu,Tryz.ntmps255,bodyPostS,results,Tryz.results255];cases c₀;simp_all
theorem implParse_no (s:ByteArray) (w:World) (hs:s.size<=1048576) (hno:∀ t,¬ IsTx s t) :
  Calls Tryz.prog 254 #[.string s] w fun e w'=>e=.returned (.tuple #[rx 0 ⟨#[]⟩ (.slice none 0 0),.bool false])/\Below w.heap.size w w':=by
 have HC:=Hid.mk (fun w'=>readRex_no s w' hs hno);have HB:=Hid.mk (Bx3.new w (.int .i64 0) (.string ⟨#[]⟩) (.slice none 0 0));have hbw:Below w.heap.size w (w.alloc (.cells #[.int .i64 0,.string ⟨#[]⟩,.slice none 0 0] 258)):=(Below.refl _ _).alloc (Nat.le_refl _) _;clear hno;go_enter_defers Tryz.func254,Tryz.ntmps254
 go_wp2_with fail
 refine(HC.out _).mono ?_;rintro e w1 ⟨rfl,hb1⟩;have hB1:=HB.out.kept (hb1.block _ HB.out.lt);have c0:=hB1.c0;have c1:=hB1.c1;have c2:=hB1.c2;have HBel:=Hid.mk (hbw.trans (hb1.mono (by simp)));refine leaves_cons (f:=255) (args:=#[]) (by simp) (by simp[go_sem]) ?_;refine(catch_panics [] _ _ _).mono ?_;rintro e u' w'' ⟨rfl,rfl,rfl⟩;simp[Leaves,settle,results,Tryz.results254,go_sem,c0,c1,c2];exact HBel.out
theorem implParse_yes (s:ByteArray) (t:Tr) (w:World) (h:IsTx s t) :
  Calls Tryz.prog 254 #[.string s] w fun e w'=>∃ u,e=.returned (.tuple #[rx t.k t.s u,.bool true])/\Ow w' (newFrom w.heap.size) t.l u/\t.s.size<=maxLen/\Below w.heap.size w w':=by
 have HC:=Hid.mk (fun w'=>readRex_yes s t w' h);have HB:=Hid.mk (Bx3.new w (.int .i64 0) (.string ⟨#[]⟩) (.slice none 0 0));have hbw:Below w.heap.size w (w.alloc (.cells #[.int .i64 0,.string ⟨#[]⟩,.slice none 0 0] 258)):=(Below.refl _ _).alloc (Nat.le_refl _) _;obtain⟨tk,htk⟩:∃ tk,t.k=tk:=⟨_,rfl⟩;obtain⟨ts,hts⟩:∃ ts,t.s=ts:=⟨_,rfl⟩;rw[htk,hts] at HC;rw[htk,hts];clear h htk hts;go_enter_defers Tryz.func254,Tryz.ntmps254
 go_wp2_with fail
 refine(HC.out _).mono ?_;rintro e w1 ⟨u,rfl,how,hsz,hb1⟩;obtain⟨au,cu,rfl⟩:=how.value;have hB1:=HB.out.kept (hb1.block _ HB.out.lt);have HBel:=Hid.mk (hbw.trans (hb1.mono (by simp)));have HO1:=Hid.mk (how.mono (C:=newFrom (w.heap.size+1)) (fun b hb=>by unfold newFrom at *;simpa using hb));have HSZ:=Hid.mk hsz;have c0:=hB1.c0;have c1:=hB1.c1;have c2:=hB1.c2;have f0:=hB1.fr;have hlt1:=hB1.lt;have HB1:=Hid.mk hB1;clear HC HB hbw how hsz hb1 hB1;go_wp2;have hput0:=HB1.out.put (.int .i64 tk) (.string ts) (.slice au t.l.length cu);have hop0:=HO1.out.set3 (b:=w.heap.size) (by unfold newFrom;omega) (.int .i64 tk) (.string ts) (.slice au t.l.length cu);have hbp0:Below w.heap.size w (set3 w1 w.heap.size (.int .i64 tk) (.string ts) (.slice au t.l.length cu)):=((HBel.out.setCell (Nat.le_refl _) _).setCell (Nat.le_refl _) _).setCell (Nat.le_refl _) _;have hal:Below (set3 w1 w.heap.size (.int .i64 tk) (.string ts) (.slice au t.l.length cu)).heap.size (set3 w1 w.heap.size (.int .i64 tk) (.string ts) (.slice au t.l.length cu)) ((set3 w1 w.heap.size (.int .i64 tk) (.string ts) (.slice au t.l.length cu)).alloc (.cells #[.int .i64 tk,.string ts,.slice au t.l.length cu] 258)):=(Below.refl _ _).alloc (Nat.le_refl _) _;have hput:=hput0.kept (hal.block _ hput0.lt);have hop:=hop0.grow hal;have hbp:=hbp0.trans (hal.mono (by rw[set3_size];omega));unfold set3 at hput hop hbp;generalize (((w1.setCell ⟨w.heap.size,0,none⟩ (.int .i64 tk)).setCell ⟨w.heap.size,1,none⟩ (.string ts)).setCell ⟨w.heap.size,2,none⟩ (.slice au t.l.length cu)).alloc (.cells #[.int .i64 tk,.string ts,.slice au t.l.length cu] 258)=W at hput hop hbp |-;have r0:=hput.c0;have r1:=hput.c1;have r2:=hput.c2;refine leaves_cons (f:=255) (args:=#[]) (by simp) (by simp[go_sem]) ?_;refine(catch_idle _).mono ?_;rintro e u' w'' ⟨rfl,rfl,rfl⟩;refine⟨.tuple #[rx tk ts (.slice au t.l.length cu),.bool true],?_,_,rfl,hop.mono (fun b hb=>by unfold newFrom at *;omega),HSZ.out,hbp⟩;simp[results,Tryz.results254,go_sem,r0,r1,r2]
end Go.Proofs.YtkbijjkgfojchaaGreat
