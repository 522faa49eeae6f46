/- The model's l8Has,l12Put over texts that are read: one more at its place. .. -/
import Derived.Test.YtkbijjkgfojchaaGreatQRun28
namespace Go.Proofs.YtkbijjkgfojchaaGreat
set_option maxHeartbeats 4000000
open Go.RowKit
set_option maxRecDepth 8000
def shT (xs:List ByteArray) (z:ByteArray) (i:Nat):List ByteArray:=(xs++[z]).take (i+1)++xs.drop i
theorem shT_len (xs:List ByteArray) (z:ByteArray) (i:Nat) (h:i<=xs.length):(shT xs z i).length=xs.length+1:=by simp[shT];omega
theorem shT_end (xs:List ByteArray) (z:ByteArray):shT xs z xs.length=xs++[z]:=by
 unfold shT;rw[List.drop_length,List.append_nil,List.take_of_length_le (by simp)]
theorem shT_get (xs:List ByteArray) (z:ByteArray) (i:Nat) (h:i+1<=xs.length):(shT xs z (i+1))[i]?=some (xs.getD i ⟨#[]⟩):=by
 unfold shT;rw[List.getElem?_append_left (by simp;omega),List.getElem?_take_of_lt (by omega),List.getElem?_append_left (by omega)];simp[List.getD,show i<xs.length by omega]
theorem shT_step (xs:List ByteArray) (z:ByteArray) (i:Nat) (h:i+1<=xs.length):(shT xs z (i+1)).set (i+1) (xs.getD i ⟨#[]⟩)=shT xs z i:=by
 have hi:i<xs.length:=by omega
 apply List.ext_getElem?
 intro j;unfold shT;rcases Nat.lt_trichotomy j (i+1) with hj | hj | hj
 ·rw[List.getElem?_set_ne (by omega),List.getElem?_append_left (by simp;omega),List.getElem?_append_left (by simp;omega),List.getElem?_take_of_lt (by omega),List.getElem?_take_of_lt (by omega)]
 ·subst hj
  rw[List.getElem?_set_self (by simp;omega),List.getElem?_append_right (by simp;omega)];simp[List.getD,hi];rw[show i+(i-min i xs.length)=i by omega];simp[hi]
 ·rw[List.getElem?_set_ne (by omega),List.getElem?_append_right (by simp;omega),List.getElem?_append_right (by simp;omega)]
  simp;congr 1
  omega
theorem shT_put (xs:List ByteArray) (z:ByteArray) (k:Nat) (n:ByteArray) (h:k<=xs.length):(shT xs z k).set k n=xs.take k++n :: xs.drop k:=by
 apply List.ext_getElem?
 intro j;unfold shT;rcases Nat.lt_trichotomy j k with hj | hj | hj
 ·rw[List.getElem?_set_ne (by omega),List.getElem?_append_left (by simp;omega),List.getElem?_append_left (by simp;omega),List.getElem?_take_of_lt (by omega),List.getElem?_take_of_lt (by omega),List.getElem?_append_left (by omega)]
 ·subst hj
  rw[List.getElem?_set_self (by simp;omega),List.getElem?_append_right (by simp;omega)];simp[Nat.min_eq_left h]
 ·rw[List.getElem?_set_ne (by omega),List.getElem?_append_right (by simp;omega),List.getElem?_append_right (by simp;omega)]
  simp;rw[show j-min k xs.length=(j-(k+1))+1 by omega,List.getElem?_cons_succ,List.getElem?_drop];congr 1
  omega
theorem OwnT.put {w:World} {base g c m:Nat} {xs:List ByteArray} (h:OwnT w base (.slice (some ⟨g,0,none⟩) m c) xs) (hm:xs.length=m) (j:Nat) (x:ByteArray):OwnT (w.setCell ⟨g,j,none⟩ (.string x)) base (.slice (some ⟨g,0,none⟩) m c) (xs.set j x):=by
 subst hm;unfold OwnT at h |-;rw[List.length_set,List.map_set];exact(World.ownsRow.stored h j (.string x)).1
theorem OwnT.cell {w:World} {base g c m:Nat} {xs:List ByteArray} (h:OwnT w base (.slice (some ⟨g,0,none⟩) m c) xs) {j:Nat} {x:ByteArray} (hj:xs[j]?=some x):w.cell? ⟨g,j,none⟩=some (.string x):=by
 have hl:j<xs.length:=(List.getElem?_eq_some_iff.1 hj).1;have h':w.ownsRow base 9 1 (.slice (some ⟨g,0,none⟩) m c) xs.length (xs.map (Value.string)):=h;have e:m=xs.length:=by
  rcases h'.2 with⟨h1,_⟩ | ⟨g',cap',cur,h1,_⟩
  ·simp at h1
  ·simp at h1;exact h1.2.1
 subst e;rw[World.ownsRow.cellAt h' j (by simpa using hl)];simp[hj]
theorem OwnT.fr {w:World} {base g c m:Nat} {xs:List ByteArray} (h:OwnT w base (.slice (some ⟨g,0,none⟩) m c) xs) (j:Nat):w.frozen? ⟨g,j,none⟩=false:=by
 rcases h.2 with⟨h1,_⟩ | ⟨g',cap',cur,h1,_,hg,_⟩
 ·simp at h1
 ·simp only[Value.slice.injEq,Option.some.injEq,Addr.mk.injEq,and_true] at h1
  obtain⟨rfl,_⟩:=h1;exact frozen_of_row w g j _ _ hg
theorem OwnT.form {w:World} {base:Nat} {v:Value} {xs:List ByteArray} (h:OwnT w base v xs) (hne:xs≠[]):∃ g c,v=.slice (some ⟨g,0,none⟩) xs.length c/\xs.length<=c/\c<=maxLen:=by
 rcases h.2 with⟨_,h1⟩ | ⟨g,cap,cur,h1,_,_,h2,h3,_⟩
 ·exact absurd (List.length_eq_zero_iff.1 h1) hne
 ·exact⟨g,cap,h1,h2,h3⟩
theorem OwnT.blk {w:World} {base g c m:Nat} {xs:List ByteArray} (h:OwnT w base (.slice (some ⟨g,0,none⟩) m c) xs):base<=g:=(World.ownsRow.lt h g rfl).1
theorem OwnT.tb {w:World} {base:Nat} {v:Value} {xs:List ByteArray} (h:OwnT w base v xs) (hs:∀ s∈xs,s.size<=maxLen):Tb w (fun b=>base<=b) v xs:=by
 obtain⟨ao,cap,h1,h2,h3,h4,h5⟩:=h.iz;refine⟨ao,cap,h1,h2,h3,h4,hs,fun hn=>?_⟩;obtain⟨b,off,e,hc⟩:=h5 hn;refine⟨b,off,e,?_,hc⟩;subst h1;subst e;rcases h.2 with⟨e1,_⟩ | ⟨g',cap',cur,e1,hb,_⟩
 ·simp at e1
 ·simp at e1
  omega
theorem Tb.cells {w:World} {B:Nat->Prop} {xs:List ByteArray} {ao:Option Addr} {n c:Nat} (h:Tb w B (.slice ao n c) xs) (hn:xs≠[]):∃ b off,ao=some ⟨b,off,none⟩/\B b/\∀ j (hj:j<xs.length),w.cell? ⟨b,off+j,none⟩=some (.string xs[j]):=by
 obtain⟨_,_,e,-,-,-,-,h6⟩:=h;cases e;obtain⟨b,off,e,hb,hc⟩:=h6 hn;exact⟨b,off,e,hb,fun j hj=>by rw[hc j hj];simp[hj]⟩
theorem l8HasTb_any (xs:List ByteArray) (B:Nat->Prop) (v:Value) (s:ByteArray) (w:World) (h:Tb w B v xs) :
  Calls Tryz.prog 74 #[v,.string s] w fun e w'=>e=.returned (.bool (hasT xs s))/\w'=w:=by
 obtain⟨ao,cap,rfl,h1,h2,h3⟩:=h.len;have hcm:cap<=9223372036854775807:=by unfold maxLen at h2;omega
 by_cases hn:xs=[]
 ·subst hn
  go_enter Tryz.func74,Tryz.ntmps74
  go_wp2;go_loop [5] (fun i=>i=.int .i64 0) (fun _=>0)
  case atStart=>rfl
  case round =>
   obtain rfl:=hrel;go_wp2;go_ret;exact⟨rfl,rfl⟩
 ·obtain⟨b,off,rfl,-,hc⟩:=h.cells hn
  exact hasT_any xs b off xs.length cap s w hc rfl h1 hcm
theorem l12Put_any (xs:List ByteArray) (B:Nat->Prop) (s:ByteArray) (u:Value) (w:World) (h:Tb w B u xs) (hs:s.size<=maxLen) (hlen:xs.length<=16777216) :
  Calls Tryz.prog 111 #[u,.string s] w fun e w'=>∃ x,e=.returned x/\Tb w' (fun b=>(B b/\b<w.heap.size)\/w.heap.size<=b) x (putT xs s)/\Below w.heap.size w w':=by
 have hHAS:=Hid.mk (l8HasTb_any xs B u s w h);have HT:=Hid.mk h;have hsz:∀ x∈xs,x.size<=maxLen:=h.choose_spec.choose_spec.2.2.2.2.1;have HSZ:Hid (∀ x∈insT xs s,x.size<=maxLen):=fun x hx=>by
  rcases mem_insT.1 hx with rfl | hx
  ·exact hs
  ·exact hsz x hx
 have HP:Hid (putT xs s=if hasT xs s then xs else insT xs s):=rfl;obtain⟨P,hP⟩:∃ P,putT xs s=P:=⟨_,rfl⟩;rw[hP] at HP |-;clear hP;obtain⟨R,hR⟩:∃ R,hasT xs s=R:=⟨_,rfl⟩;rw[hR] at HP hHAS;clear hR;have I0:=Hid.mk (h.tz.grow ((Below.refl _ _).alloc (Nat.le_refl _) (.cells #[] 9)));obtain⟨ao,cap,rfl,hl,hm,-⟩:=h.len;unfold maxLen at hm;have O0:Hid (OwnT (w.alloc (.cells #[] 9)) w.heap.size (.slice (some ⟨w.heap.size,0,none⟩) 0 0) []):=World.ownsRow_lit w #[] 0 (Nat.le_refl _) (by decide) rfl;have B0:Hid (Below w.heap.size w (w.alloc (.cells #[] 9))):=(Below.refl _ _).alloc (Nat.le_refl _) _;clear hs hsz h;go_enter Tryz.func111,Tryz.ntmps111
 go_wp2_with fail
 refine hHAS.out.mono ?_;rintro e w0 ⟨rfl,rfl⟩;clear hHAS;cases R with
 | true =>
  have HP2:Hid (P=xs):=HP.out;clear HP I0 O0 B0 HSZ;go_wp2;go_ret;refine⟨_,rfl,?_,Below.refl _ _⟩;rw[HP2.out];exact HT.out.imp fun b hb hlt=>.inl ⟨hb,hlt⟩
 | false =>
  have HP2:Hid (P=insT xs s):=HP.out;clear HP HT;go_wp2_with (at_builtin;refine wpList_append_t rfl _ _ rfl w0.heap.size _ _ [] xs rfl O0.out rfl I0.out B0.out (by simp) (by simp;omega) ?_)
  intro v1 w1 hown1 hb1 hs1 _ _;have O1:=Hid.mk (OwnT.grow hown1 ((Below.refl _ w1).alloc (Nat.le_refl _) (.cells #[.string s] 9)));have B1:Hid (Below w0.heap.size w0 (w1.alloc (.cells #[.string s] 9))):=hb1.alloc hs1 _;have hs1':w0.heap.size<=(w1.alloc (.cells #[.string s] 9)).heap.size:=(by simp;omega);have I1:Hid (Tz (w1.alloc (.cells #[.string s] 9)) (.slice (some ⟨w1.heap.size,0,none⟩) 1 1) [s]):=by
   refine⟨_,_,rfl,Nat.le_refl _,by unfold maxLen;omega,(fun h=>by cases h),fun _=>⟨w1.heap.size,0,rfl,fun k hk=>?_⟩⟩;obtain rfl:k=0:=by simpa using hk
   rw[cell_of_row _ _ _ _ _ (0,0) (heap_alloc_new w1 _)];rfl
  clear hown1 hb1 I0 O0 B0;go_wp2_with (at_builtin;refine wpList_append_t rfl _ _ rfl w0.heap.size _ _ xs [s] rfl O1.out rfl I1.out B1.out hs1' (by simp;omega) ?_)
  intro v3 w3 hown3 hb3 hs3 _ _;obtain⟨g,c3,rfl,hcm⟩:=hown3.form (by simp);rw[List.length_append] at hown3 hcm |-;simp only[List.length_cons,List.length_nil,Nat.zero_add] at hown3 hcm |-;have O3:Hid (OwnT w3 w0.heap.size (.slice (some ⟨g,0,none⟩) (xs.length+1) c3) (shT xs s xs.length)):=(by show OwnT _ _ _ _;rw[shT_end];exact hown3);have B4:=Hid.mk hb3;have hgb:=hown3.blk;unfold maxLen at hcm;clear hown3 hb3 I1 B1 O1 hs1 hs1';go_wp2;go_loopw [6] (fun q wr=>∃ (k:Nat),k<=xs.length/\q=.int .i64 k/\Hid (insK xs s xs.length=insK xs s k)/\Hid (OwnT wr w0.heap.size (.slice (some ⟨g,0,none⟩) (xs.length+1) c3) (shT xs s k))/\Hid (Below w0.heap.size w0 wr)) (fun q _=>(intOf q).toNat)
  case atStart=>exact⟨xs.length,Nat.le_refl _,by go_num,rfl,O3,B4⟩
  case round =>
   obtain⟨k,hk,rfl,HK,HO,HB⟩:=hrel;clear O3 B4;by_cases hk0:k=0
   ·subst hk0
    have d1:=HO.out.fr 0;obtain⟨c',hc'⟩:∃ c',(shT xs s 0)[0]?=some c':=⟨_,List.getElem?_eq_getElem (by rw[shT_len xs _ _ hk];omega)⟩;have d2:=HO.out.cell hc';have HO2:Hid (OwnT (wr.setCell ⟨g,0,none⟩ (.string s)) w0.heap.size (.slice (some ⟨g,0,none⟩) (xs.length+1) c3) P):=by
     have e:P=(shT xs s 0).set 0 s:=(by rw[HP2.out,shT_put xs s 0 s hk];unfold insT;rw[HK.out];rfl);show OwnT _ _ _ _
     rw[e];exact HO.out.put (shT_len xs _ _ hk) _ _
    have HB2:Hid (Below w0.heap.size w0 (wr.setCell ⟨g,0,none⟩ (.string s))):=HB.out.setCell (p:=⟨g,0,none⟩) hgb _;clear hc' HO HB HK;go_wp2;go_ret;exact⟨_,rfl,(HO2.out.tb (by rw[HP2.out];exact HSZ.out)).imp fun b hb _=>.inr hb,HB2.out⟩
   ·obtain⟨k',rfl⟩:∃ k',k=k'+1:=⟨k-1,by omega⟩
    have d0:=HO.out.cell (shT_get xs s k' hk);have d1:=HO.out.fr (k'+1);obtain⟨c',hc'⟩:∃ c',(shT xs s (k'+1))[k'+1]?=some c':=⟨_,List.getElem?_eq_getElem (by rw[shT_len xs _ _ hk];omega)⟩;have d2:=HO.out.cell hc';obtain⟨cv,hcv⟩:∃ cv,xs.getD k' ⟨#[]⟩=cv:=⟨_,rfl⟩;rw[hcv] at d0;have e1:((k'+1:Nat):Int)-1=(k':Int):=(by omega);have hk0':(0:Int)<((k'+1:Nat):Int):=(by omega);have hk2:k'+1<xs.length+1:=(by omega);have hk3:((k'+1:Nat):Int)<((xs.length+1:Nat):Int):=(by omega);have hk4:(k':Int)<((xs.length+1:Nat):Int):=(by omega);have htri:=nm_tri cv.toList s.toList;cases hlt:Op.bytesLess s.toList cv.toList with
    | true =>
     have hg1:Op.bytesLess cv.toList s.toList=false:=by
      rcases htri with⟨_,h,_⟩ | ⟨h,_,_⟩ | ⟨_,h,_⟩
      ·rw[hlt] at h;cases h
      ·exact h
      ·rw[hlt] at h;cases h
     have hg2:(cv.toList==s.toList)=false:=by
      rcases htri with⟨_,h,_⟩ | ⟨_,_,h⟩ | ⟨_,h,_⟩
      ·rw[hlt] at h;cases h
      ·exact h
      ·rw[hlt] at h;cases h
     clear htri;have HK2:Hid (insK xs s xs.length=insK xs s k'):=by
      have h1:=HK.out;show _=_
      rw[h1];show(if Op.bytesLess s.toList (xs.getD k' ⟨#[]⟩).toList=true then insK xs s k' else k'+1)=_
      rw[hcv,if_pos hlt]
     have HO2:Hid (OwnT (wr.setCell ⟨g,k'+1,none⟩ (.string cv)) w0.heap.size (.slice (some ⟨g,0,none⟩) (xs.length+1) c3) (shT xs s k')):=by
      show OwnT _ _ _ _
      rw[<- shT_step xs s k' hk,hcv];exact HO.out.put (shT_len xs _ _ hk) _ _
     have HB2:Hid (Below w0.heap.size w0 (wr.setCell ⟨g,k'+1,none⟩ (.string cv))):=HB.out.setCell (p:=⟨g,k'+1,none⟩) hgb _;clear hcv hc' HO HB HK;go_wp2;go_roundw
     case rel=>exact⟨k',by omega,by go_num,HK2,HO2,HB2⟩
     case measure=>simp[intOf]
    | false =>
     have hgt:(Op.bytesLess cv.toList s.toList=true)\/(Op.bytesLess cv.toList s.toList=false/\(cv.toList==s.toList)=true):=by
      rcases htri with⟨h,_,_⟩ | ⟨_,h,_⟩ | ⟨h,_,h'⟩
      ·exact .inl h
      ·rw[hlt] at h;cases h
      ·exact .inr ⟨h,h'⟩
     clear htri;have HO2:Hid (OwnT (wr.setCell ⟨g,k'+1,none⟩ (.string s)) w0.heap.size (.slice (some ⟨g,0,none⟩) (xs.length+1) c3) P):=by
      have h1:insK xs s xs.length=k'+1:=by
       rw[HK.out];show(if Op.bytesLess s.toList (xs.getD k' ⟨#[]⟩).toList=true then insK xs s k' else k'+1)=_
       rw[hcv,if_neg (by rw[hlt];simp)]
      have e:P=(shT xs s (k'+1)).set (k'+1) s:=(by rw[HP2.out,shT_put xs s (k'+1) s hk];unfold insT;rw[h1]);show OwnT _ _ _ _
      rw[e];exact HO.out.put (shT_len xs _ _ hk) _ _
     have HB2:Hid (Below w0.heap.size w0 (wr.setCell ⟨g,k'+1,none⟩ (.string s))):=HB.out.setCell (p:=⟨g,k'+1,none⟩) hgb _;clear hcv hc' HO HB HK;rcases hgt with hg1 | ⟨hg1,hg2⟩;all_goals
      go_wp2;go_ret;exact⟨_,rfl,(HO2.out.tb (by rw[HP2.out];exact HSZ.out)).imp fun b hb _=>.inr hb,HB2.out⟩
end Go.Proofs.YtkbijjkgfojchaaGreat
namespace Go.Proofs.YtkbijjkgfojchaaGreat
open Go.RowKit Go.Maps
set_option maxRecDepth 8000
set_option linter.unusedSimpArgs false
theorem nameAdd_any (xs:List ByteArray) (B:Nat->Prop) (v:Value) (b n:Nat) (P:ByteArray->Prop) (w:World) (h:Tb w B v xs) (hB:∀ k,B k->k≠b) (hm:SetM w b n P) (hn:n+xs.length<=4398046511104) :
  Calls Tryz.prog 65 #[.map (some b),v] w fun e w'=>e=.returned (.tuple #[])/\SetM w' b (n+xs.length) (fun s=>P s\/s∈xs)/\w.grownBy w' (some b):=by
 obtain⟨ao,cap,rfl,hl,hm2,-⟩:=h.len;have hcm:cap<=9223372036854775807:=by unfold maxLen at hm2;omega
 have HT:=Hid.mk h;have HB:=Hid.mk hB;have hsz:∀ x∈xs,x.size<=maxLen:=h.choose_spec.choose_spec.2.2.2.2.1;have HSZ:=Hid.mk hsz;have HM:=Hid.mk hm;have HN:=Hid.mk hn;obtain⟨an,han⟩:∃ n,xs.length=n:=⟨_,rfl⟩;have HAN:=Hid.mk han;rw[han] at hl HT HN |-;clear h hB hsz hm hn hm2 han;go_enter Tryz.func65,Tryz.ntmps65
 go_wp2;go_loopw [8] (fun i wr=>∃ k:Nat,k<=an/\i=.int .i64 k/\Hid (SetM wr b (n+k) (fun s=>P s\/s∈xs.take k))/\Hid (w.grownBy wr (some b))) (fun i _=>an-(intOf i).toNat)
 case atStart=>exact⟨0,Nat.zero_le _,rfl,HM.out.iff fun s _=>by simp,⟨rfl,rfl,rfl,Nat.le_refl _,fun _ _ _=>rfl⟩⟩
 case round =>
  obtain⟨k,hk,rfl,HM2,HG⟩:=hrel;clear HM;by_cases hkl:k<an
  ·have hi1:(k:Int)<(an:Int):=by omega
   have hkx:k<xs.length:=(by rw[HAN.out];exact hkl);obtain⟨bb,off,rfl,hbb,hcl⟩:=HT.out.cells (by intro hn;rw[hn] at hkx;simp at hkx);have hcs:=hcl k hkx;have hcs2:wr.cell? ⟨bb,off+k,none⟩=some (.string xs[k]):=HG.out.cell hcs (by simpa using HB.out bb hbb);have HSK:=Hid.mk (HSZ.out _ (List.getElem_mem hkx));have HTK:Hid (∀ s,((P s\/s∈xs.take k)\/s=xs[k])↔(P s\/s∈xs.take (k+1))):=fun s=>by
    rw[List.take_succ_eq_append_getElem hkx,List.mem_append,or_assoc];simp
   obtain⟨s,hs⟩:∃ s,xs[k]=s:=⟨_,rfl⟩;rw[hs] at hcs2 HSK HTK;have hnn:n+k<maxLen:=(by have:=HN.out;unfold maxLen;omega);clear hs hcl hcs hkx;go_wp2_with (at_mapUpdate;refine wpList_setPut rfl _ _ _ rfl b (n+k) _ HM2.out hnn s HSK.out rfl rfl rfl ?_)
   intro w2 hm2 hg2;have HM3:Hid (SetM w2 b (n+(k+1)) (fun s=>P s\/s∈xs.take (k+1))):=by
    have:=hm2.iff fun s _=>HTK.out s
    rwa [Nat.add_assoc] at this
   have HG3:=Hid.mk (grownBy_trans HG.out hg2);clear hm2 hg2 HM2 HG hcs2;go_wp2;go_roundw
   case rel=>exact⟨k+1,by omega,by go_num,HM3,HG3⟩
   case measure=>simp[intOf];omega
  ·have e:k=an:=by omega
   subst e;have HM3:Hid (SetM wr b (n+k) (fun s=>P s\/s∈xs)):=by
    have:=HM2.out;rw[show xs.take k=xs by rw[<- HAN.out,List.take_length]] at this;exact this
   clear HM2;go_wp2;go_end0
   exact⟨rfl,HM3.out,HG.out⟩
def CalM (w:World) (b n:Nat) (C:Ex->Prop):Prop:=∃ M,MapI w b n M/\∀ s:ByteArray,s.size<=maxLen->((M s).isSome=true↔∃ e,C e/\e.s=s)/\∀ x,M s=some x->0<=x/\x<=9223372036854775807/\(∀ e,C e->e.s=s->(e.l.length:Int)<=x)/\∃ e,C e/\e.s=s/\(e.l.length:Int)=x
structure UsM (w:World) (bv bt bc n:Nat) (V T:ByteArray->Prop) (C:Ex->Prop):Prop where
 vt:bv≠bt
 vc:bv≠bc
 tc:bt≠bc
 hv:SetM w bv n V
 ht:SetM w bt n T
 hc:CalM w bc n C
structure Ko (w w':World) (bv bt bc:Nat):Prop where
 os:w'.os=w.os
 tape:w'.tape=w.tape
 output:w'.output=w.output
 size:w.heap.size<=w'.heap.size
 block:∀ b,b<w.heap.size->b≠bv->b≠bt->b≠bc->w'.heap[b]?=w.heap[b]?
theorem Ko.refl (w:World) (bv bt bc:Nat):Ko w w bv bt bc:=⟨rfl,rfl,rfl,Nat.le_refl _,fun _ _ _ _ _=>rfl⟩
theorem Ko.trans {w w' w'':World} {bv bt bc:Nat} (h:Ko w w' bv bt bc) (q:Ko w' w'' bv bt bc):Ko w w'' bv bt bc :=
 ⟨q.os.trans h.os,q.tape.trans h.tape,q.output.trans h.output,Nat.le_trans h.size q.size,fun b hb h1 h2 h3=>(q.block b (Nat.lt_of_lt_of_le hb h.size) h1 h2 h3).trans (h.block b hb h1 h2 h3)⟩
theorem Ko.ofBelow {w w':World} (h:Below w.heap.size w w') (bv bt bc:Nat):Ko w w' bv bt bc:=⟨h.os,h.tape,h.output,h.size,fun b hb _ _ _=>h.block b hb⟩
theorem Ko.ofV {w w':World} {bv:Nat} (h:w.grownBy w' (some bv)) (bt bc:Nat):Ko w w' bv bt bc:=⟨h.os,h.tape,h.output,h.size,fun b hb h1 _ _=>h.block b hb (by simpa using h1)⟩
theorem Ko.ofT {w w':World} {bt:Nat} (h:w.grownBy w' (some bt)) (bv bc:Nat):Ko w w' bv bt bc:=⟨h.os,h.tape,h.output,h.size,fun b hb _ h1 _=>h.block b hb (by simpa using h1)⟩
theorem Ko.ofC {w w':World} {bc:Nat} (h:w.grownBy w' (some bc)) (bv bt:Nat):Ko w w' bv bt bc:=⟨h.os,h.tape,h.output,h.size,fun b hb _ _ h1=>h.block b hb (by simpa using h1)⟩
theorem CalM.kept {w w':World} {b n:Nat} {C:Ex->Prop} (h:CalM w b n C) (hb:w'.heap[b]?=w.heap[b]?):CalM w' b n C:=by
 obtain⟨M,h,hM⟩:=h;exact⟨M,h.kept hb,hM⟩
theorem CalM.lt {w:World} {b n:Nat} {C:Ex->Prop} (h:CalM w b n C):b<w.heap.size:=by
 obtain⟨M,h,-⟩:=h;exact h.lt
theorem CalM.mono {w:World} {b n n':Nat} {C:Ex->Prop} (h:CalM w b n C) (hn:n<=n'):CalM w b n' C:=by
 obtain⟨M,h,hM⟩:=h;exact⟨M,h.mono hn,hM⟩
theorem CalM.iff {w:World} {b n:Nat} {C D:Ex->Prop} (h:CalM w b n C) (hq:∀ e,C e↔D e):CalM w b n D:=by
 obtain rfl:C=D:=funext fun e=>propext (hq e);exact h
theorem CalM.made (w:World):CalM (w.alloc (.map #[] 0)) w.heap.size 0 (fun _=>False):=⟨_,MapI.made w,fun s _=>⟨by simp,fun x h=>by cases h⟩⟩
theorem UsM.grow {w w':World} {bv bt bc n:Nat} {V T:ByteArray->Prop} {C:Ex->Prop} (h:UsM w bv bt bc n V T C) (hk:Below w.heap.size w w'):UsM w' bv bt bc n V T C :=
 ⟨h.vt,h.vc,h.tc,h.hv.kept (hk.block bv h.hv.lt),h.ht.kept (hk.block bt h.ht.lt),h.hc.kept (hk.block bc h.hc.lt)⟩
theorem UsM.mono {w:World} {bv bt bc n n':Nat} {V T:ByteArray->Prop} {C:Ex->Prop} (h:UsM w bv bt bc n V T C) (hn:n<=n'):UsM w bv bt bc n' V T C :=
 ⟨h.vt,h.vc,h.tc,h.hv.mono hn,h.ht.mono hn,h.hc.mono hn⟩
def plV1 (V:ByteArray->Prop) (l:List Us):ByteArray->Prop:=fun s=>V s\/.v s∈l
def plT1 (T:ByteArray->Prop) (l:List Us):ByteArray->Prop:=fun s=>T s\/.t s∈l
def plC1 (C:Ex->Prop) (l:List Us):Ex->Prop:=fun e=>C e\/.c e∈l
theorem UsM.iff {w:World} {bv bt bc n:Nat} {V T V' T':ByteArray->Prop} {C C':Ex->Prop} (h:UsM w bv bt bc n V T C) (hv:∀ s,V s↔V' s) (ht:∀ s,T s↔T' s) (hc:∀ e,C e↔C' e):UsM w bv bt bc n V' T' C' :=
 ⟨h.vt,h.vc,h.tc,h.hv.iff fun s _=>hv s,h.ht.iff fun s _=>ht s,h.hc.iff hc⟩
theorem UsM.more {w:World} {bv bt bc n k:Nat} {V T:ByteArray->Prop} {C:Ex->Prop} {a b l:List Us} (h:UsM w bv bt bc (n+k) (plV1 (plV1 V a) b) (plT1 (plT1 T a) b) (plC1 (plC1 C a) b)) (hl:a++b=l):UsM w bv bt bc (n+k) (plV1 V l) (plT1 T l) (plC1 C l):=by
 subst hl;exact h.iff (fun s=>by simp[plV1,or_assoc]) (fun s=>by simp[plT1,or_assoc]) (fun e=>by simp[plC1,or_assoc])
theorem UsM.nil {w:World} {bv bt bc n:Nat} {V T:ByteArray->Prop} {C:Ex->Prop} (h:UsM w bv bt bc n V T C):UsM w bv bt bc n (plV1 V []) (plT1 T []) (plC1 C []) :=
 h.iff (fun s=>by simp[plV1]) (fun s=>by simp[plT1]) (fun e=>by simp[plC1])
theorem UsM.putV {w w':World} {bv bt bc n:Nat} {V T:ByteArray->Prop} {C:Ex->Prop} {s:ByteArray} (h:UsM w bv bt bc n V T C) (hg:w.grownBy w' (some bv)) (hs:SetM w' bv (n+1) (fun x=>V x\/x∈[s])):UsM w' bv bt bc (n+1) (plV1 V [.v s]) (plT1 T [.v s]) (plC1 C [.v s]) :=
 ⟨h.vt,h.vc,h.tc,hs.iff fun x _=>by simp[plV1],((h.ht.kept (hg.block bt h.ht.lt (by simpa using fun e=>h.vt e.symm))).mono (Nat.le_succ n)).iff fun x _=>by simp[plT1],((h.hc.kept (hg.block bc h.hc.lt (by simpa using fun e=>h.vc e.symm))).mono (Nat.le_succ n)).iff fun e=>by simp[plC1]⟩
theorem UsM.putT {w w':World} {bv bt bc n:Nat} {V T:ByteArray->Prop} {C:Ex->Prop} {s:ByteArray} (h:UsM w bv bt bc n V T C) (hg:w.grownBy w' (some bt)) (hs:SetM w' bt (n+1) (fun x=>T x\/x∈[s])):UsM w' bv bt bc (n+1) (plV1 V [.t s]) (plT1 T [.t s]) (plC1 C [.t s]) :=
 ⟨h.vt,h.vc,h.tc,((h.hv.kept (hg.block bv h.hv.lt (by simpa using h.vt))).mono (Nat.le_succ n)).iff fun x _=>by simp[plV1],hs.iff fun x _=>by simp[plT1],((h.hc.kept (hg.block bc h.hc.lt (by simpa using fun e=>h.tc e.symm))).mono (Nat.le_succ n)).iff fun e=>by simp[plC1]⟩
theorem UsM.putC {w w':World} {bv bt bc n:Nat} {V T:ByteArray->Prop} {C:Ex->Prop} {e:Ex} (h:UsM w bv bt bc n V T C) (hg:w.grownBy w' (some bc)) (hs:CalM w' bc (n+1) (fun x=>C x\/x=e)):UsM w' bv bt bc (n+1) (plV1 V [.c e]) (plT1 T [.c e]) (plC1 C [.c e]) :=
 ⟨h.vt,h.vc,h.tc,((h.hv.kept (hg.block bv h.hv.lt (by simpa using h.vc))).mono (Nat.le_succ n)).iff fun x _=>by simp[plV1],((h.ht.kept (hg.block bt h.ht.lt (by simpa using h.tc))).mono (Nat.le_succ n)).iff fun x _=>by simp[plT1],hs.iff fun x=>by simp[plC1]⟩
end Go.Proofs.YtkbijjkgfojchaaGreat
namespace Go.Proofs.YtkbijjkgfojchaaGreat
open Go.RowKit
set_option maxRecDepth 8000
def ccs:List (Ex × Value)->List Value
 | []=>[]
 | q :: r=>.int .i64 q.1.k :: .int .i64 q.1.n :: .string q.1.s :: q.2 :: ccs r
theorem ccs_length (L:List (Ex × Value)):(ccs L).length=L.length*4:=by
 induction L with
 | nil=>rfl
 | cons q r ih=>simp only[ccs,List.length_cons,ih];omega
theorem ccs_append (L M:List (Ex × Value)):ccs (L++M)=ccs L++ccs M:=by
 induction L with
 | nil=>rfl
 | cons q r ih=>simp only[List.cons_append,ccs,ih]
theorem ccs_at (L:List (Ex × Value)):∀ i (h:i<L.length),(ccs L)[i*4]?=some (.int .i64 L[i].1.k)/\(ccs L)[i*4+1]?=some (.int .i64 L[i].1.n)/\(ccs L)[i*4+2]?=some (.string L[i].1.s)/\(ccs L)[i*4+3]?=some L[i].2:=by
 induction L with
 | nil=>intro i h;simp at h
 | cons q r ih =>
  intro i h;cases i with
  | zero=>simp[ccs]
  | succ i =>
   have:=ih i (by simpa using h);have e0:(i+1)*4=i*4+4:=(by omega);simp only[ccs,e0,List.getElem?_cons_succ,List.getElem_cons_succ];exact this
def CRow (w:World) (n:Nat) (c:Value) (cs:List Ex):Prop :=
 ∃ L:List (Ex × Value),L.map (·.1)=cs/\w.ownsRow n 54 4 c L.length (ccs L)/\∀ q∈L,∃ ao cap,q.2=.slice ao q.1.l.length cap
theorem CRow.kept {w w':World} {n:Nat} {c:Value} {cs:List Ex} {row:Option Nat} (h:CRow w n c cs) (hg:w.grownBy w' row) (hr:∀ k,c.ownBlock=some k->row≠some k):CRow w' n c cs:=by
 obtain⟨L,h1,h2,h3⟩:=h;refine⟨L,h1,World.ownsRow.kept h2 hg ?_,h3⟩;cases hc:c.ownBlock with
 | none=>exact .inl rfl
 | some k=>exact .inr fun e=>hr k hc e.symm
theorem CRow.lt {w:World} {n:Nat} {c:Value} {cs:List Ex} (h:CRow w n c cs):∀ k,c.ownBlock=some k->n<=k/\k<w.heap.size:=by
 obtain⟨L,-,h2,-⟩:=h;exact World.ownsRow.lt h2
structure Uw (w:World) (ub:Nat) (v t c p:Value) (ps:List ByteArray) (fn line:Bool) (m:Ms):Prop where
 hp:w.heap[ub]?=some (.cells #[v,t,c,p,.bool fn,.bool line,.bool m.bad] 74 (0,0))
 hv:Tb w (fun b=>ub<b/\some b≠c.ownBlock) v m.vs
 ht:Tb w (fun b=>ub<b/\some b≠c.ownBlock) t m.ts
 hps:Tb w (fun b=>b≠ub/\some b≠c.ownBlock) p ps
 hc:CRow w (ub+1) c m.cs
def U7 (w:World) (ub:Nat) (ps:List ByteArray) (fn line:Bool) (m:Ms) (c:Value):Prop:=∃ v t p,Uw w ub v t c p ps fn line m
theorem Uw.u7 {w:World} {ub:Nat} {v t c p:Value} {ps:List ByteArray} {fn line:Bool} {m:Ms} (h:Uw w ub v t c p ps fn line m):U7 w ub ps fn line m c:=⟨v,t,p,h⟩
theorem nm_gb {w w':World} (h:Below w.heap.size w w'):w.grownBy w' none:=⟨h.os,h.tape,h.output,h.size,fun k hk _=>h.block k hk⟩
theorem gb_cell (w:World) (b o:Nat) (u:Value):w.grownBy (w.setCell ⟨b,o,none⟩ u) (some b) :=
 ⟨rfl,rfl,rfl,by simp[World.setCell],fun k _ hk=>Below.heap_setCell w _ u k (fun e=>hk (by rw[e]))⟩
theorem Uw.grow {w w':World} {ub:Nat} {v t c p:Value} {ps:List ByteArray} {fn line:Bool} {m:Ms} (h:Uw w ub v t c p ps fn line m) (hk:Below w.heap.size w w'):Uw w' ub v t c p ps fn line m :=
 ⟨(hk.block ub (Array.getElem?_eq_some_iff.1 h.hp).1).trans h.hp,h.hv.grow hk,h.ht.grow hk,h.hps.grow hk,h.hc.kept (nm_gb hk) (by simp)⟩
theorem U7.grow {w w':World} {ub:Nat} {c:Value} {ps:List ByteArray} {fn line:Bool} {m:Ms} (h:U7 w ub ps fn line m c) (hk:Below w.heap.size w w'):U7 w' ub ps fn line m c:=by
 obtain⟨v,t,p,h⟩:=h;exact(h.grow hk).u7
theorem Uw.lt {w:World} {ub:Nat} {v t c p:Value} {ps:List ByteArray} {fn line:Bool} {m:Ms} (h:Uw w ub v t c p ps fn line m):ub<w.heap.size:=(Array.getElem?_eq_some_iff.1 h.hp).1
theorem U7.lt {w:World} {ub:Nat} {c:Value} {ps:List ByteArray} {fn line:Bool} {m:Ms} (h:U7 w ub ps fn line m c):ub<w.heap.size:=by
 obtain⟨v,t,p,h⟩:=h;exact h.lt
theorem U7.row {w:World} {ub:Nat} {c:Value} {ps:List ByteArray} {fn line:Bool} {m:Ms} (h:U7 w ub ps fn line m c):∀ k,c.ownBlock=some k->ub<k/\k<w.heap.size:=by
 obtain⟨v,t,p,h⟩:=h;exact h.hc.lt
structure Kp (w w':World) (ub:Nat) (c c':Value):Prop where
 os:w'.os=w.os
 tape:w'.tape=w.tape
 output:w'.output=w.output
 size:w.heap.size<=w'.heap.size
 block:∀ b,b<w.heap.size->b≠ub->some b≠c.ownBlock->w'.heap[b]?=w.heap[b]?
 row:∀ k,c'.ownBlock=some k->c.ownBlock=some k\/w.heap.size<=k
theorem Kp.refl (w:World) (ub:Nat) (c:Value):Kp w w ub c c:=⟨rfl,rfl,rfl,Nat.le_refl _,fun _ _ _ _=>rfl,fun _ h=>.inl h⟩
theorem Kp.trans {w w' w'':World} {ub:Nat} {c c' c'':Value} (h:Kp w w' ub c c') (q:Kp w' w'' ub c' c''):Kp w w'' ub c c'' :=
 ⟨q.os.trans h.os,q.tape.trans h.tape,q.output.trans h.output,Nat.le_trans h.size q.size,fun b hb hu hc=>(q.block b (Nat.lt_of_lt_of_le hb h.size) hu (fun e=>by
  rcases h.row b e.symm with g | g
  ·exact hc g.symm
  ·omega)).trans (h.block b hb hu hc),fun k hk=>by
  rcases q.row k hk with g | g
  ·exact h.row k g
  ·exact .inr (Nat.le_trans h.size g)⟩
theorem Kp.ofBelow {w w':World} (h:Below w.heap.size w w') (ub:Nat) (c:Value):Kp w w' ub c c:=⟨h.os,h.tape,h.output,h.size,fun b hb _ _=>h.block b hb,fun _ h=>.inl h⟩
theorem Kp.set (w:World) (ub o:Nat) (x c:Value):Kp w (w.setCell ⟨ub,o,none⟩ x) ub c c :=
 ⟨rfl,rfl,rfl,by simp[World.setCell],fun b _ hu _=>Below.heap_setCell w ⟨ub,o,none⟩ x b hu,fun _ h=>.inl h⟩
theorem Kp.below {w w':World} {ub:Nat} {c c':Value} (h:Kp w w' ub c c') (hc:∀ k,c.ownBlock=some k->ub<=k) (hu:ub<=w.heap.size):Below ub w w' :=
 ⟨h.os,h.tape,h.output,h.size,fun k hk=>h.block k (by omega) (by omega) (fun e=>by have:=hc k e.symm;omega)⟩
theorem Uw.cell {w:World} {ub:Nat} {v t c p:Value} {ps:List ByteArray} {fn line:Bool} {m:Ms} (h:Uw w ub v t c p ps fn line m) (o:Nat):w.cell? ⟨ub,o,none⟩=#[v,t,c,p,.bool fn,.bool line,.bool m.bad][o]?:=cell_of_row w ub o _ _ (0,0) h.hp
theorem Uw.fr {w:World} {ub:Nat} {v t c p:Value} {ps:List ByteArray} {fn line:Bool} {m:Ms} (h:Uw w ub v t c p ps fn line m) (o:Nat):w.frozen? ⟨ub,o,none⟩=false:=frozen_of_row w ub o _ _ h.hp
theorem Uw.cne {w:World} {ub:Nat} {v t c p:Value} {ps:List ByteArray} {fn line:Bool} {m:Ms} (h:Uw w ub v t c p ps fn line m):∀ k,c.ownBlock=some k->some ub≠some k:=fun k hk e=>by
 have:=(h.hc.lt k hk).1;simp at e;omega
theorem Uw.setV {w:World} {ub:Nat} {v t c p x:Value} {ps xs:List ByteArray} {fn line:Bool} {m:Ms} (h:Uw w ub v t c p ps fn line m) (hx:Tb w (fun b=>ub<b/\some b≠c.ownBlock) x xs):Uw (w.setCell ⟨ub,0,none⟩ x) ub x t c p ps fn line { m with vs:=xs } :=
 ⟨by rw[Go.heap_setCell_same w ub 0 _ _ x h.hp];rfl,hx.setCell (by simp) x,h.ht.setCell (by simp) x,h.hps.setCell (by simp) x,h.hc.kept (gb_cell w ub 0 x) h.cne⟩
theorem Uw.setT {w:World} {ub:Nat} {v t c p x:Value} {ps xs:List ByteArray} {fn line:Bool} {m:Ms} (h:Uw w ub v t c p ps fn line m) (hx:Tb w (fun b=>ub<b/\some b≠c.ownBlock) x xs):Uw (w.setCell ⟨ub,1,none⟩ x) ub v x c p ps fn line { m with ts:=xs } :=
 ⟨by rw[Go.heap_setCell_same w ub 1 _ _ x h.hp];rfl,h.hv.setCell (by simp) x,hx.setCell (by simp) x,h.hps.setCell (by simp) x,h.hc.kept (gb_cell w ub 1 x) h.cne⟩
theorem Uw.setP {w:World} {ub:Nat} {v t c p x:Value} {ps xs:List ByteArray} {fn line:Bool} {m:Ms} (h:Uw w ub v t c p ps fn line m) (hx:Tb w (fun b=>b≠ub/\some b≠c.ownBlock) x xs):Uw (w.setCell ⟨ub,3,none⟩ x) ub v t c x xs fn line m :=
 ⟨by rw[Go.heap_setCell_same w ub 3 _ _ x h.hp];rfl,h.hv.setCell (by simp) x,h.ht.setCell (by simp) x,hx.setCell (by simp) x,h.hc.kept (gb_cell w ub 3 x) h.cne⟩
theorem Uw.setF {w:World} {ub:Nat} {v t c p:Value} {ps:List ByteArray} {fn line:Bool} {m:Ms} (h:Uw w ub v t c p ps fn line m) (x:Bool):Uw (w.setCell ⟨ub,4,none⟩ (.bool x)) ub v t c p ps x line m :=
 ⟨by rw[Go.heap_setCell_same w ub 4 _ _ (.bool x) h.hp];rfl,h.hv.setCell (by simp) _,h.ht.setCell (by simp) _,h.hps.setCell (by simp) _,h.hc.kept (gb_cell w ub 4 (.bool x)) h.cne⟩
theorem Uw.setL {w:World} {ub:Nat} {v t c p:Value} {ps:List ByteArray} {fn line:Bool} {m:Ms} (h:Uw w ub v t c p ps fn line m) (x:Bool):Uw (w.setCell ⟨ub,5,none⟩ (.bool x)) ub v t c p ps fn x m :=
 ⟨by rw[Go.heap_setCell_same w ub 5 _ _ (.bool x) h.hp];rfl,h.hv.setCell (by simp) _,h.ht.setCell (by simp) _,h.hps.setCell (by simp) _,h.hc.kept (gb_cell w ub 5 (.bool x)) h.cne⟩
theorem Uw.setB {w:World} {ub:Nat} {v t c p:Value} {ps:List ByteArray} {fn line:Bool} {m:Ms} (h:Uw w ub v t c p ps fn line m) (x:Bool):Uw (w.setCell ⟨ub,6,none⟩ (.bool x)) ub v t c p ps fn line { m with bad:=x } :=
 ⟨by rw[Go.heap_setCell_same w ub 6 _ _ (.bool x) h.hp];rfl,h.hv.setCell (by simp) _,h.ht.setCell (by simp) _,h.hps.setCell (by simp) _,h.hc.kept (gb_cell w ub 6 (.bool x)) h.cne⟩
theorem Uw.fresh {w w':World} {ub:Nat} {v t c p x:Value} {ps xs:List ByteArray} {fn line:Bool} {m:Ms} (h:Uw w ub v t c p ps fn line m) (hx:Tb w' (fun b=>((ub<b/\some b≠c.ownBlock)/\b<w.heap.size)\/w.heap.size<=b) x xs):Tb w' (fun b=>ub<b/\some b≠c.ownBlock) x xs :=
 hx.imp fun b hb _=>by
  rcases hb with hb | hb
  ·exact hb.1
  ·have:=h.lt
   refine⟨by omega,fun e=>?_⟩;have:=(h.hc.lt b e.symm).2;omega
theorem l12Var_any (s:ByteArray) (ub:Nat) (ps:List ByteArray) (fn line:Bool) (m:Ms) (c:Value) (w:World) (hU:U7 w ub ps fn line m c) (hs:s.size<=maxLen) (hm:m.vs.length<=16777216) :
  Calls Tryz.prog 110 #[.pointer (some ⟨ub,0,none⟩),.string s] w fun e w'=>e=.returned (.tuple #[])/\U7 w' ub ps fn line (m.step ps fn line (.v s)) c/\Kp w w' ub c c:=by
 obtain⟨v,t,p,hU⟩:=hU;have HU:=Hid.mk hU;have HH:=Hid.mk (l8HasTb_any ps _ p s w hU.hps);have HPU:=Hid.mk (l12Put_any m.vs _ s v w hU.hv hs hm);have c3:=hU.cell 3;have c0:=hU.cell 0;simp at c3 c0;clear hU hs hm;have HST:Hid (m.step ps fn line (.v s)=if hasT ps s then m else { m with vs:=putT m.vs s }):=rfl;obtain⟨m',hm'⟩:∃ x,m.step ps fn line (.v s)=x:=⟨_,rfl⟩;rw[hm'] at HST |-;clear hm';obtain⟨R,hR⟩:∃ R,hasT ps s=R:=⟨_,rfl⟩;rw[hR] at HH HST;clear hR;go_enter Tryz.func110,Tryz.ntmps110
 go_wp2_with fail
 refine HH.out.mono ?_;rintro e w0 ⟨rfl,rfl⟩;clear HH c3;cases R with
 | true =>
  have HE:Hid (m'=m):=HST.out;clear HST HPU c0;go_wp2;go_end0
  exact⟨rfl,by rw[HE.out];exact HU.out.u7,Kp.refl _ _ _⟩
 | false =>
  have HE:Hid (m'={ m with vs:=putT m.vs s }):=HST.out;clear HST;go_wp2_with fail
  refine HPU.out.mono ?_;rintro e w1 ⟨x,rfl,hx,hb⟩;have HU1:=Hid.mk (HU.out.grow hb);have HX:=Hid.mk (HU.out.fresh hx);have HB:=Hid.mk (Kp.ofBelow hb ub c);obtain⟨xo,xn,xc,rfl⟩:∃ o n c,x=.slice o n c:=by obtain⟨o,c,h,-⟩:=hx.len;exact⟨_,_,_,h⟩
  have f0:=HU1.out.fr 0;have d0:=HU1.out.cell 0;simp at d0;clear hx hb HPU c0;go_wp2;go_end0
  refine⟨rfl,?_,HB.out.trans (Kp.set _ _ _ _ _)⟩;rw[HE.out];exact(HU1.out.setV HX.out).u7
end Go.Proofs.YtkbijjkgfojchaaGreat
