/- Which bytes stand for themselves,and rising rows of them: the program's and the document's model's. Rising rows of byte .. -/
import Derived.Test.YtkbijjkgfojchaaGreatQRun1
namespace Go.Proofs.YtkbijjkgfojchaaGreat
set_option maxHeartbeats 2000000
open Go.RowKit
set_option maxRecDepth 8000
theorem ret_b {a b:Bool} (h:a=b):Ending.returned (.bool a)=.returned (.bool b):=by rw[h]
def inB (a b x:Int):Bool:=decide (a<=x)&&decide (x<=b)
theorem inB_yes {a b x:Int} (h:a<=x/\x<=b):inB a b x=true:=by simp[inB,h.1,h.2]
theorem inB_no {a b x:Int} (h:¬ (a<=x/\x<=b)):inB a b x=false:=by
 unfold inB;by_cases h1:a<=x
 ·have h2:¬ x<=b:=fun h2=>h ⟨h1,h2⟩
  simp[h1,h2]
 ·simp[h1]
def rb (c:Int):Bool:=inB 97 122 c||inB 65 90 c||inB 48 57 c||c==32||c==95||c==45||c==44||c==58
theorem l1In_any (x a b:Int) (w:World):Calls Tryz.prog 132 #[.int .i64 x,.int .i64 a,.int .i64 b] w fun e w'=>e=.returned (.bool (inB a b x))/\w'=w:=by
 by_cases h:a<=x
 ·by_cases h2:x<=b
  ·have H:=Hid.mk (inB_yes ⟨h,h2⟩)
   go_enter Tryz.func132,Tryz.ntmps132
   go_wp2;go_ret;exact⟨ret_b H.out.symm,rfl⟩
  ·have H:=Hid.mk (inB_no (a:=a) (b:=b) (x:=x) (fun q=>h2 q.2))
   go_enter Tryz.func132,Tryz.ntmps132
   go_wp2;go_ret;exact⟨ret_b H.out.symm,rfl⟩
 ·have H:=Hid.mk (inB_no (a:=a) (b:=b) (x:=x) (fun q=>h q.1))
  go_enter Tryz.func132,Tryz.ntmps132
  go_wp2;go_ret;exact⟨ret_b H.out.symm,rfl⟩
theorem l2Digit_any (c:Int) (h0:0<=c) (h1:c<=255) (w:World):Calls Tryz.prog 148 #[.int .u8 c] w fun e w'=>e=.returned (.bool (inB 48 57 c))/\w'=w:=by
 go_enter Tryz.func148,Tryz.ntmps148
 go_wp2_with (go_at_call 132;refine(l1In_any _ _ _ _).mono ?_;rintro e w' ⟨rfl,rfl⟩)
 go_ret;exact⟨rfl,rfl⟩
theorem specByte_any (c:Int) (h0:0<=c) (h1:c<=255) (w:World):Calls Tryz.prog 202 #[.int .u8 c] w fun e w'=>e=.returned (.bool (rb c))/\w'=w:=by
 by_cases hA:97<=c/\c<=122
 ·have a1:=inB_yes hA
  have H:Hid (rb c=true):=(by show _=_;simp[rb,a1]);clear hA;go_enter Tryz.func202,Tryz.ntmps202
  go_wp2_with (go_at_call 132;refine(l1In_any _ _ _ _).mono ?_;rintro e w' ⟨rfl,rfl⟩)
  go_ret;exact⟨ret_b H.out.symm,rfl⟩
 have a1:=inB_no hA;by_cases hB:65<=c/\c<=90
 ·have a2:=inB_yes hB
  have H:Hid (rb c=true):=(by show _=_;simp[rb,a2]);clear hA hB;go_enter Tryz.func202,Tryz.ntmps202
  go_wp2_with (go_at_call 132;refine(l1In_any _ _ _ _).mono ?_;rintro e w' ⟨rfl,rfl⟩)
  go_ret;exact⟨ret_b H.out.symm,rfl⟩
 have a2:=inB_no hB;have hd:=fun w=>l2Digit_any c h0 h1 w;by_cases hC:48<=c/\c<=57
 ·have a3:=inB_yes hC
  have H:Hid (rb c=true):=(by show _=_;simp[rb,a3]);have HD:=Hid.mk hd;clear hA hB hC hd;go_enter Tryz.func202,Tryz.ntmps202
  go_wp2_with (first | (go_at_call 132;refine(l1In_any _ _ _ _).mono ?_;rintro e w' ⟨rfl,rfl⟩) | (go_at_call 148;refine(HD.out _).mono ?_;rintro e w' ⟨rfl,rfl⟩))
  go_ret;exact⟨ret_b H.out.symm,rfl⟩
 have a3:=inB_no hC;have HD:=Hid.mk hd;have H:Hid (rb c=(c==32||c==95||c==45||c==44||c==58)):=by show _=_;simp[rb,a1,a2,a3]
 clear hA hB hC hd;by_cases e1:c=32
 ·subst e1
  go_enter Tryz.func202,Tryz.ntmps202
  go_wp2_with (first | (go_at_call 132;refine(l1In_any _ _ _ _).mono ?_;rintro e w' ⟨rfl,rfl⟩) | (go_at_call 148;refine(HD.out _).mono ?_;rintro e w' ⟨rfl,rfl⟩))
  go_ret;exact⟨ret_b (H.out.trans rfl).symm,rfl⟩
 by_cases e2:c=95
 ·subst e2
  go_enter Tryz.func202,Tryz.ntmps202
  go_wp2_with (first | (go_at_call 132;refine(l1In_any _ _ _ _).mono ?_;rintro e w' ⟨rfl,rfl⟩) | (go_at_call 148;refine(HD.out _).mono ?_;rintro e w' ⟨rfl,rfl⟩))
  go_ret;exact⟨ret_b (H.out.trans rfl).symm,rfl⟩
 by_cases e3:c=45
 ·subst e3
  go_enter Tryz.func202,Tryz.ntmps202
  go_wp2_with (first | (go_at_call 132;refine(l1In_any _ _ _ _).mono ?_;rintro e w' ⟨rfl,rfl⟩) | (go_at_call 148;refine(HD.out _).mono ?_;rintro e w' ⟨rfl,rfl⟩))
  go_ret;exact⟨ret_b (H.out.trans rfl).symm,rfl⟩
 by_cases e4:c=44
 ·subst e4
  go_enter Tryz.func202,Tryz.ntmps202
  go_wp2_with (first | (go_at_call 132;refine(l1In_any _ _ _ _).mono ?_;rintro e w' ⟨rfl,rfl⟩) | (go_at_call 148;refine(HD.out _).mono ?_;rintro e w' ⟨rfl,rfl⟩))
  go_ret;exact⟨ret_b (H.out.trans rfl).symm,rfl⟩
 have H2:Hid (rb c=(c==58)):=by show _=_;rw[H.out];simp[e1,e2,e3,e4]
 have b1:(c==32)=false:=by simpa using e1
 have b2:(c==95)=false:=by simpa using e2
 have b3:(c==45)=false:=by simpa using e3
 have b4:(c==44)=false:=by simpa using e4
 clear H e1 e2 e3 e4;go_enter Tryz.func202,Tryz.ntmps202
 go_wp2_with (first | (go_at_call 132;refine(l1In_any _ _ _ _).mono ?_;rintro e w' ⟨rfl,rfl⟩) | (go_at_call 148;refine(HD.out _).mono ?_;rintro e w' ⟨rfl,rfl⟩))
 go_ret;exact⟨ret_b H2.out.symm,rfl⟩
theorem implByte_any (c:Int) (h0:0<=c) (h1:c<=255) (w:World):Calls Tryz.prog 278 #[.int .u8 c] w fun e w'=>e=.returned (.bool (rb c))/\w'=w:=by
 by_cases e1:c=32
 ·subst e1
  go_enter Tryz.func278,Tryz.ntmps278
  go_wp2;go_ret;exact⟨ret_b rfl,rfl⟩
 by_cases e2:c=95
 ·subst e2
  go_enter Tryz.func278,Tryz.ntmps278
  go_wp2;go_ret;exact⟨ret_b rfl,rfl⟩
 by_cases e3:c=45
 ·subst e3
  go_enter Tryz.func278,Tryz.ntmps278
  go_wp2;go_ret;exact⟨ret_b rfl,rfl⟩
 by_cases e4:c=44
 ·subst e4
  go_enter Tryz.func278,Tryz.ntmps278
  go_wp2;go_ret;exact⟨ret_b rfl,rfl⟩
 by_cases e5:c=58
 ·subst e5
  go_enter Tryz.func278,Tryz.ntmps278
  go_wp2;go_ret;exact⟨ret_b rfl,rfl⟩
 have H:Hid (rb c=(inB 97 122 c||inB 65 90 c||inB 48 57 c)):=by show _=_;rw[rb,beq_eq_false_iff_ne.2 e1,beq_eq_false_iff_ne.2 e2,beq_eq_false_iff_ne.2 e3,beq_eq_false_iff_ne.2 e4,beq_eq_false_iff_ne.2 e5];simp
 by_cases hA:97<=c/\c<=122
 ·have H2:Hid (rb c=true):=by show _=_;rw[H.out,inB_yes hA];rfl
  obtain⟨p,q⟩:=hA;clear H;go_enter Tryz.func278,Tryz.ntmps278
  go_wp2;go_ret;exact⟨ret_b H2.out.symm,rfl⟩
 by_cases hB:65<=c/\c<=90
 ·have H2:Hid (rb c=true):=by show _=_;rw[H.out,inB_yes hB];simp
  have p:¬ 97<=c:=(by omega);obtain⟨p',q⟩:=hB;clear H hA;go_enter Tryz.func278,Tryz.ntmps278
  go_wp2;go_ret;exact⟨ret_b H2.out.symm,rfl⟩
 by_cases hC:48<=c/\c<=57
 ·have H2:Hid (rb c=true):=by show _=_;rw[H.out,inB_yes hC];simp
  have p:¬ 97<=c:=(by omega);have p1:¬ 65<=c:=(by omega);obtain⟨p',q⟩:=hC;clear H hA hB;go_enter Tryz.func278,Tryz.ntmps278
  go_wp2;go_ret;exact⟨ret_b H2.out.symm,rfl⟩
 have H2:Hid (rb c=false):=by show _=_;rw[H.out,inB_no hA,inB_no hB,inB_no hC];rfl
 clear H;by_cases q1:97<=c
 ·have q2:¬ c<=122:=by omega
  have q3:¬ c<=90:=(by omega);have q4:¬ c<=57:=(by omega);have q5:65<=c:=(by omega);have q6:48<=c:=(by omega);clear hA hB hC;go_enter Tryz.func278,Tryz.ntmps278
  go_wp2;go_ret;exact⟨ret_b H2.out.symm,rfl⟩
 by_cases q2:65<=c
 ·have q3:¬ c<=90:=by omega
  have q4:¬ c<=57:=(by omega);have q6:48<=c:=(by omega);clear hA hB hC;go_enter Tryz.func278,Tryz.ntmps278
  go_wp2;go_ret;exact⟨ret_b H2.out.symm,rfl⟩
 by_cases q3:48<=c
 ·have q4:¬ c<=57:=by omega
  clear hA hB hC;go_enter Tryz.func278,Tryz.ntmps278
  go_wp2;go_ret;exact⟨ret_b H2.out.symm,rfl⟩
 ·clear hA hB hC
  go_enter Tryz.func278,Tryz.ntmps278
  go_wp2;go_ret;exact⟨ret_b H2.out.symm,rfl⟩
def ba (s:ByteArray) (i:Nat):Int:=(txt s).getD i 0
theorem ba_eq (s:ByteArray) (i:Nat) (h:i<s.size):ba s i=((s[i].toNat:Nat):Int):=by
 have hl:i<(txt s).length:=by rw[txt_length];exact h
 unfold ba;rw[List.getD,List.getElem?_eq_getElem hl];simp[txt];rfl
def okAt (s:ByteArray) (i:Nat):Bool:=rb (ba s i)&&(i==0||decide (ba s (i-1)<ba s i))
def risB (s:ByteArray):Bool:=(List.range s.size).all (okAt s)
def setB (s:ByteArray) (most:Nat):Bool:=decide (1<=s.size)&&decide (s.size<=most)&&risB s
theorem setB_in (s:ByteArray) (h:risB s=true):setB s 10=inB 1 10 (s.size:Int):=by
 unfold setB inB;rw[h,Bool.and_true];congr 1 <;> exact decide_eq_decide.2 (by omega)
theorem risB_no {s:ByteArray} {k:Nat} (h:k<s.size) (hk:okAt s k=false):risB s=false:=by
 unfold risB;rw[List.all_eq_false];exact⟨k,List.mem_range.2 h,by rw[hk];simp⟩
theorem risB_yes {s:ByteArray} (h:∀ j,j<s.size->okAt s j=true):risB s=true:=by
 unfold risB;rw[List.all_eq_true];exact fun j hj=>h j (List.mem_range.1 hj)
theorem okAt_first (s:ByteArray) (k:Nat) (h:k<s.size):rb ((s[k].toNat:Nat):Int)=false->okAt s k=false:=by
 intro hr;unfold okAt;rw[ba_eq s k h,hr];rfl
theorem okAt_zero (s:ByteArray) (h:0<s.size) (hr:rb ((s[0].toNat:Nat):Int)=true):okAt s 0=true:=by
 unfold okAt;rw[ba_eq s 0 h,hr];rfl
theorem okAt_succ (s:ByteArray) (k:Nat) (h:k+1<s.size) (h':k<s.size) (hr:rb ((s[k+1].toNat:Nat):Int)=true) (hlt:((s[k].toNat:Nat):Int)<((s[k+1].toNat:Nat):Int)):okAt s (k+1)=true:=by
 unfold okAt;rw[ba_eq s (k+1) h,hr,Nat.add_sub_cancel,ba_eq s k h',decide_eq_true hlt];rfl
theorem okAt_no (s:ByteArray) (k:Nat) (h:k+1<s.size) (h':k<s.size) (hge:((s[k+1].toNat:Nat):Int)<=((s[k].toNat:Nat):Int)):okAt s (k+1)=false:=by
 unfold okAt;rw[ba_eq s (k+1) h,Nat.add_sub_cancel,ba_eq s k h',decide_eq_false (by omega)];simp
theorem drew_more {w w1:World} (h:∃ n,w1=w.drewN n) (m:Nat):∃ n,w1.drewN m=w.drewN n:=by
 obtain⟨n,rfl⟩:=h;exact⟨n+m,by simp[World.drewN,Nat.add_assoc]⟩
theorem specSet_any (s:ByteArray) (w:World) (hs:s.size<=maxLen):Calls Tryz.prog 203 #[.string s] w fun e w'=>e=.returned (.bool (setB s 10))/\∃ n,w'=w.drewN n:=by
 unfold maxLen at hs;go_enter Tryz.func203,Tryz.ntmps203
 go_wp2;go_loopw [3] (fun i wr=>∃ (k:Nat),k<=s.size/\i=.int .i64 k/\Hid (∀ j,j<k->okAt s j=true)/\∃ n,wr=w.drewN n) (fun i _=>s.size-(intOf i).toNat)
 case atStart=>exact⟨0,Nat.zero_le _,rfl,fun j hj=>absurd hj (Nat.not_lt_zero j),0,rfl⟩
 case round =>
  obtain⟨k,hk,rfl,Hk,hn⟩:=hrel;have HN:=Hid.mk hn;clear hn;by_cases hlt:k<s.size
  ·have hc0:((s[k].toNat:Nat):Int)<=255:=by have:=s[k].toNat_lt;omega
   have hcp:(0:Int)<=((s[k].toNat:Nat):Int):=(by omega);have HA:=Hid.mk (okAt_first s k hlt);have HB:=Hid.mk (specByte_any _ hcp hc0);cases hrb:rb ((s[k].toNat:Nat):Int) with
   | false =>
    rw[hrb] at HB;have HR:Hid (setB s 10=false):=(by show _=_;rw[setB,risB_no hlt (HA.out hrb)];simp);clear Hk;go_wp2_with fail
    go_quiet ((go_at_call 202;exact Calls.quiet_of_same (HB.out _)))
    go_wp2;go_ret;exact⟨ret_b HR.out.symm,drew_more HN.out _⟩
   | true =>
    rw[hrb] at HB;by_cases hz:k=0
    ·subst hz
     have Hk':Hid (∀ j,j<0+1->okAt s j=true):=by
      intro j hj;obtain rfl:j=0:=by omega
      exact okAt_zero s hlt hrb
     clear Hk;go_wp2_with fail
     go_quiet ((go_at_call 202;exact Calls.quiet_of_same (HB.out _)))
     go_wp2;go_roundw
     case rel=>exact⟨0+1,by omega,by go_num,Hk',drew_more HN.out _⟩
     case measure=>simp[intOf];omega
    ·obtain⟨p,hp⟩:∃ p,p+1=k:=⟨k-1,by omega⟩
     have hp1:(k:Int)-1=(p:Int):=(by omega);have hlt':p<s.size:=(by omega);have hz':0<k:=(by omega);by_cases hge:((s[k].toNat:Nat):Int)<=((s[p].toNat:Nat):Int)
     ·have HR:Hid (setB s 10=false):=by show _=_;rw[setB,risB_no hlt (by subst hp;exact okAt_no s p hlt hlt' hge)];simp
      clear Hk hp;go_wp2_with fail
      go_quiet ((go_at_call 202;exact Calls.quiet_of_same (HB.out _)))
      go_wp2;go_ret;exact⟨ret_b HR.out.symm,drew_more HN.out _⟩
     ·have Hk':Hid (∀ j,j<k+1->okAt s j=true):=by
       intro j hj;by_cases hj2:j<k
       ·exact Hk.out j hj2
       ·obtain rfl:j=k:=by omega
        subst hp;exact okAt_succ s p hlt hlt' hrb (by omega)
      clear Hk hp;go_wp2_with fail
      go_quiet ((go_at_call 202;exact Calls.quiet_of_same (HB.out _)))
      go_wp2;go_roundw
      case rel=>exact⟨k+1,by omega,by go_num,Hk',drew_more HN.out _⟩
      case measure=>simp[intOf];omega
  ·have e:k=s.size:=by omega
   subst e;have HR:Hid (setB s 10=inB 1 10 s.size):=setB_in s (risB_yes Hk.out);clear Hk;go_wp2_with (go_at_call 132;refine(l1In_any _ _ _ _).mono ?_;rintro e w' ⟨rfl,rfl⟩)
   go_ret;exact⟨ret_b HR.out.symm,HN.out⟩
theorem implRising_core (s:ByteArray) (m:Nat) (w:World) (hs:s.size<=maxLen) (h1:1<=s.size) (h2:s.size<=m):Calls Tryz.prog 272 #[.string s,.int .i64 m] w fun e w'=>e=.returned (.bool (setB s m))/\∃ n,w'=w.drewN n:=by
 unfold maxLen at hs;have h0:((s.size:Int)==0)=false:=beq_eq_false_iff_ne.2 (by omega);have h3:¬ (m:Int)<(s.size:Int):=by omega
 have HM:Hid (setB s m=risB s):=by show _=_;rw[setB];simp[h1,h2]
 go_enter Tryz.func272,Tryz.ntmps272
 go_wp2;go_loopw [5] (fun i wr=>∃ (k:Nat),k<=s.size/\i=.int .i64 k/\Hid (∀ j,j<k->okAt s j=true)/\∃ n,wr=w.drewN n) (fun i _=>s.size-(intOf i).toNat)
 case atStart=>exact⟨0,Nat.zero_le _,rfl,fun j hj=>absurd hj (Nat.not_lt_zero j),0,rfl⟩
 case round =>
  obtain⟨k,hk,rfl,Hk,hn⟩:=hrel;have HN:=Hid.mk hn;clear hn;by_cases hlt:k<s.size
  ·have hc0:((s[k].toNat:Nat):Int)<=255:=by have:=s[k].toNat_lt;omega
   have hcp:(0:Int)<=((s[k].toNat:Nat):Int):=(by omega);have HA:=Hid.mk (okAt_first s k hlt);have HB:=Hid.mk (implByte_any _ hcp hc0);cases hrb:rb ((s[k].toNat:Nat):Int) with
   | false =>
    rw[hrb] at HB;have HR:Hid (setB s m=false):=(by show _=_;rw[HM.out,risB_no hlt (HA.out hrb)]);clear Hk;go_wp2_with fail
    go_quiet ((go_at_call 278;exact Calls.quiet_of_same (HB.out _)))
    go_wp2;go_ret;exact⟨ret_b HR.out.symm,drew_more HN.out _⟩
   | true =>
    rw[hrb] at HB;by_cases hz:k=0
    ·subst hz
     have Hk':Hid (∀ j,j<0+1->okAt s j=true):=by
      intro j hj;obtain rfl:j=0:=by omega
      exact okAt_zero s hlt hrb
     clear Hk;go_wp2_with fail
     go_quiet ((go_at_call 278;exact Calls.quiet_of_same (HB.out _)))
     go_wp2;go_roundw
     case rel=>exact⟨0+1,by omega,by go_num,Hk',drew_more HN.out _⟩
     case measure=>simp[intOf];omega
    ·obtain⟨p,hp⟩:∃ p,p+1=k:=⟨k-1,by omega⟩
     have hp1:(k:Int)-1=(p:Int):=(by omega);have hlt':p<s.size:=(by omega);have hz':0<k:=(by omega);by_cases hge:((s[k].toNat:Nat):Int)<=((s[p].toNat:Nat):Int)
     ·have HR:Hid (setB s m=false):=by show _=_;rw[HM.out,risB_no hlt (by subst hp;exact okAt_no s p hlt hlt' hge)]
      clear Hk hp;go_wp2_with fail
      go_quiet ((go_at_call 278;exact Calls.quiet_of_same (HB.out _)))
      go_wp2;go_ret;exact⟨ret_b HR.out.symm,drew_more HN.out _⟩
     ·have Hk':Hid (∀ j,j<k+1->okAt s j=true):=by
       intro j hj;by_cases hj2:j<k
       ·exact Hk.out j hj2
       ·obtain rfl:j=k:=by omega
        subst hp;exact okAt_succ s p hlt hlt' hrb (by omega)
      clear Hk hp;go_wp2_with fail
      go_quiet ((go_at_call 278;exact Calls.quiet_of_same (HB.out _)))
      go_wp2;go_roundw
      case rel=>exact⟨k+1,by omega,by go_num,Hk',drew_more HN.out _⟩
      case measure=>simp[intOf];omega
  ·have e:k=s.size:=by omega
   subst e;have HR:Hid (setB s m=true):=(by show _=_;rw[HM.out,risB_yes Hk.out]);clear Hk HM;go_wp2;go_ret;exact⟨ret_b HR.out.symm,HN.out⟩
theorem implRising_any (s:ByteArray) (m:Nat) (w:World) (hs:s.size<=maxLen):Calls Tryz.prog 272 #[.string s,.int .i64 m] w fun e w'=>e=.returned (.bool (setB s m))/\∃ n,w'=w.drewN n:=by
 by_cases h1:1<=s.size
 ·by_cases h2:s.size<=m
  ·exact implRising_core s m w hs h1 h2
  ·have H:Hid (setB s m=false):=by show _=_;rw[setB];simp[h2]
   have h0:((s.size:Int)==0)=false:=beq_eq_false_iff_ne.2 (by omega);have h3:(m:Int)<(s.size:Int):=(by omega);clear h2;go_enter Tryz.func272,Tryz.ntmps272
   go_wp2;go_ret;exact⟨ret_b H.out.symm,0,rfl⟩
 ·have H:Hid (setB s m=false):=by show _=_;rw[setB];simp[h1]
  have h0:s.size=0:=(by omega);clear h1;go_enter Tryz.func272,Tryz.ntmps272
  go_wp2;go_ret;exact⟨ret_b H.out.symm,0,rfl⟩
def repB (k:Int):Bool:=k==6||k==7||k==8
def kinds (l:List Tr) (k:Int):Bool:=l.any fun t=>t.k==k
def headK:List Tr->Int
 | []=>0
 | t :: _=>t.k
def nodeB (t:Tr):Bool :=
 if t.k=1 then setB t.s 1&&decide (t.l.length=0)
 else if t.k=3 then setB t.s 10&&decide (t.l.length=0)
 else if t.k=2\/t.k=9\/t.k=10\/t.k=11 then t.s.toList.isEmpty&&decide (t.l.length=0)
 else if t.k=4\/t.k=5 then t.s.toList.isEmpty&&decide (2<=t.l.length)&&decide (t.l.length<=8)&&!kinds t.l t.k
 else if t.k=6\/t.k=7\/t.k=8 then t.s.toList.isEmpty&&decide (t.l.length=1)&&!repB (headK t.l)
 else false
mutual
def Tr.okT:Tr->Bool
 | .node k s l=>okL l&&nodeB (.node k s l)
def okL:List Tr->Bool
 | []=>true
 | t :: r=>t.okT&&okL r
end
mutual
def Tr.cnt:Tr->Nat
 | .node _ _ l=>1+cntL l
def cntL:List Tr->Nat
 | []=>0
 | t :: r=>t.cnt+cntL r
end
theorem okT_eq (t:Tr):t.okT=(okL t.l&&nodeB t):=by cases t;rw[Tr.okT];rfl
theorem cnt_eq (t:Tr):t.cnt=1+cntL t.l:=by cases t;rw[Tr.cnt];rfl
theorem cnt_pos (t:Tr):1<=t.cnt:=by rw[cnt_eq];omega
theorem okL_iff (l:List Tr):okL l=true↔∀ x∈l,x.okT=true:=by
 induction l with
 | nil=>simp[okL]
 | cons t r ih=>simp[okL,ih]
def dpF:Nat->Tr->Bool
 | 0,_=>false
 | f+1,t=>t.l.all (dpF f)
def partsG (g:Tr->Nat) (n:Nat) (x:Tr):Nat:=if n<=60 then n+g x else n
def partsF:Nat->Tr->Nat
 | 0,_=>61
 | f+1,t=>t.l.foldl (partsG (partsF f)) 1
def roomG (g:Tr->Int->Int) (q:Int) (x:Tr):Int:=if q<0 then -1 else g x q
def roomF:Nat->Tr->Int->Int
 | 0,_,_ => -1
 | f+1,t,r=>if r=0\/nodeB t=false then -1 else t.l.foldl (roomG (roomF f)) (r-1)
theorem parts_fold {f:Nat} (ih:∀ t,(partsF f t<=60↔dpF f t=true/\t.cnt<=60)/\(partsF f t<=60->partsF f t=t.cnt)) (l:List Tr) :
  ∀ n,(l.foldl (partsG (partsF f)) n<=60↔n<=60/\l.all (dpF f)=true/\n+cntL l<=60)/\(l.foldl (partsG (partsF f)) n<=60->l.foldl (partsG (partsF f)) n=n+cntL l):=by
 induction l with
 | nil=>intro n;simp[cntL]
 | cons t r ihl =>
  intro n;rw[List.foldl_cons,List.all_cons,cntL];obtain⟨h1,h2⟩:=ihl (partsG (partsF f) n t);obtain⟨i1,i2⟩:=ih t;by_cases hn:n<=60
  ·have hg:partsG (partsF f) n t=n+partsF f t:=by rw[partsG,if_pos hn]
   rw[hg] at h1 h2 |-;by_cases hp:partsF f t<=60
   ·have e:=i2 hp
    obtain⟨d,c⟩:=i1.1 hp;rw[e] at h1 h2 |-;constructor
    ·rw[h1,d,Bool.true_and]
     exact⟨fun h=>⟨hn,h.2.1,by omega⟩,fun h=>⟨by omega,h.2.1,by omega⟩⟩
    ·intro h;rw[h2 h];omega
   ·have hnd:¬ (dpF f t=true/\t.cnt<=60):=fun h=>hp (i1.2 h)
    constructor
    ·rw[h1]
     constructor
     ·intro h;omega
     ·intro h
      exfalso
      apply hnd
      have hd:dpF f t=true:=(by have:=h.2.1;simp only[Bool.and_eq_true] at this;exact this.1);exact⟨hd,by omega⟩
    ·intro h;have:=h1.1 h;omega
  ·have hg:partsG (partsF f) n t=n:=by rw[partsG,if_neg hn]
   rw[hg] at h1 h2 |-;constructor
   ·rw[h1]
    constructor
    ·intro h;omega
    ·intro h;omega
   ·intro h;have:=h1.1 h;omega
theorem parts_spec (f:Nat):∀ t,(partsF f t<=60↔dpF f t=true/\t.cnt<=60)/\(partsF f t<=60->partsF f t=t.cnt):=by
 induction f with
 | zero=>intro t;simp[partsF,dpF]
 | succ f ih =>
  intro t;obtain⟨h1,h2⟩:=parts_fold ih t.l 1;rw[partsF,dpF,cnt_eq];constructor
  ·rw[h1]
   constructor
   ·intro h;exact⟨h.2.1,h.2.2⟩
   ·intro h;exact⟨by omega,h.1,h.2⟩
  ·exact h2
theorem room_fold {f:Nat} (ih:∀ t r,0<=r->roomF f t r=if dpF f t=true/\t.okT=true/\(t.cnt:Int)<=r then r-t.cnt else -1) (l:List Tr) :
  ∀ q:Int,-1<=q->l.foldl (roomG (roomF f)) q=if 0<=q/\l.all (dpF f)=true/\okL l=true/\(cntL l:Int)<=q then q-cntL l else -1:=by
 induction l with
 | nil=>intro q hq;simp[cntL,okL];omega
 | cons t r ihl =>
  intro q hq;rw[List.foldl_cons,List.all_cons,cntL,okL];by_cases h0:q<0
  ·have hg:roomG (roomF f) q t = -1:=by rw[roomG,if_pos h0]
   rw[hg,ihl (-1) (by omega),if_neg (by omega),if_neg (by omega)]
  ·have hg:roomG (roomF f) q t=roomF f t q:=by rw[roomG,if_neg h0]
   rw[hg,ih t q (by omega)];by_cases hc:dpF f t=true/\t.okT=true/\(t.cnt:Int)<=q
   ·rw[if_pos hc,ihl _ (by omega)]
    obtain⟨d,o,c⟩:=hc;simp only[d,o,Bool.true_and];split <;> split <;> (try omega)
    ·rename_i a b;exact absurd ⟨by omega,a.2.1,a.2.2.1,by omega⟩ b
    ·rename_i a b;exact absurd ⟨by omega,b.2.1,b.2.2.1,by omega⟩ a
   ·rw[if_neg hc,ihl (-1) (by omega),if_neg (by omega),if_neg]
    intro h;apply hc
    have hd:=h.2.1;have ho:=h.2.2.1;simp only[Bool.and_eq_true] at hd ho;exact⟨hd.1,ho.1,by omega⟩
theorem room_spec (f:Nat):∀ t r,0<=r->roomF f t r=if dpF f t=true/\t.okT=true/\(t.cnt:Int)<=r then r-t.cnt else -1:=by
 induction f with
 | zero=>intro t r _;simp[roomF,dpF]
 | succ f ih =>
  intro t r hr;rw[roomF,dpF,cnt_eq,okT_eq];by_cases h0:r=0\/nodeB t=false
  ·rw[if_pos h0,if_neg]
   rintro⟨_,h2,h3⟩;rcases h0 with h0 | h0
   ·omega
   ·rw[h0] at h2;simp at h2
  ·rw[if_neg h0,room_fold ih t.l (r-1) (by omega)]
   have hnb:nodeB t=true:=by
    cases hb:nodeB t with
    | true=>rfl
    | false=>exact absurd (Or.inr hb) h0
   rw[hnb,Bool.and_true];split <;> split <;> (try omega)
   ·rename_i a b;exact absurd ⟨a.2.1,a.2.2.1,by omega⟩ b
   ·rename_i a b;exact absurd ⟨by omega,b.1,b.2.1,by omega⟩ a
def okR (t:Tr):Bool:=decide (partsF 6 t<=60)&&t.okT
theorem okR_room (t:Tr):decide (0<=roomF 6 t 60)=okR t:=by
 obtain⟨h1,_⟩:=parts_spec 6 t;rw[okR,room_spec 6 t 60 (by omega)];by_cases h:dpF 6 t=true/\t.okT=true/\(t.cnt:Int)<=60
 ·rw[if_pos h,decide_eq_true (h1.2 ⟨h.1,by omega⟩),h.2.1,decide_eq_true (by omega)];rfl
 ·rw[if_neg h]
  by_cases hp:partsF 6 t<=60
  ·have:=h1.1 hp
   have ho:t.okT=false:=by
    cases hb:t.okT with
    | true=>exact absurd ⟨this.1,hb,by omega⟩ h
    | false=>rfl
   rw[ho];simp
  ·rw[decide_eq_false hp];simp
theorem parts_bd (f:Nat):∀ t,1<=partsF f t/\partsF f t<=61+60*f:=by
 induction f with
 | zero=>intro t;simp[partsF]
 | succ f ih =>
  intro t;have h:∀ (l:List Tr) (n:Nat),1<=n->n<=121+60*f->1<=l.foldl (partsG (partsF f)) n/\l.foldl (partsG (partsF f)) n<=121+60*f:=by
   intro l;induction l with
   | nil=>intro n h0 h1;exact⟨h0,h1⟩
   | cons x r ihl =>
    intro n h0 h1;rw[List.foldl_cons];apply ihl
    ·unfold partsG;split <;> omega
    ·have:=(ih x).2
     unfold partsG;split <;> omega
  have:=h t.l 1 (by omega) (by omega);rw[partsF];omega
theorem parts_take {f:Nat} (l:List Tr) (k:Nat) (h:k<l.length):(l.take (k+1)).foldl (partsG (partsF f)) 1=partsG (partsF f) ((l.take k).foldl (partsG (partsF f)) 1) l[k]:=by
 rw[List.take_succ_eq_append_getElem h,List.foldl_append];rfl
theorem parts_stop {f:Nat} (l:List Tr):∀ n,60<n->l.foldl (partsG (partsF f)) n=n:=by
 induction l with
 | nil=>intro n _;rfl
 | cons x r ih=>intro n h;rw[List.foldl_cons,partsG,if_neg (by omega)];exact ih n h
theorem parts_cut {f:Nat} (l:List Tr) (k:Nat) (h:60<(l.take k).foldl (partsG (partsF f)) 1):l.foldl (partsG (partsF f)) 1=(l.take k).foldl (partsG (partsF f)) 1:=by
 conv=>lhs;rw[<- List.take_append_drop k l]
 rw[List.foldl_append];exact parts_stop _ _ h
theorem room_take {f:Nat} (l:List Tr) (k:Nat) (r:Int) (h:k<l.length):(l.take (k+1)).foldl (roomG (roomF f)) r=roomG (roomF f) ((l.take k).foldl (roomG (roomF f)) r) l[k]:=by
 rw[List.take_succ_eq_append_getElem h,List.foldl_append];rfl
theorem room_stop {f:Nat} (l:List Tr):l.foldl (roomG (roomF f)) (-1) = -1:=by
 induction l with
 | nil=>rfl
 | cons x r ih=>rw[List.foldl_cons,roomG,if_pos (by omega)];exact ih
theorem room_cut {f:Nat} (l:List Tr) (k:Nat) (r:Int) (h:(l.take k).foldl (roomG (roomF f)) r = -1):l.foldl (roomG (roomF f)) r = -1:=by
 conv=>lhs;rw[<- List.take_append_drop k l]
 rw[List.foldl_append,h];exact room_stop _
theorem room_bd (f:Nat) (t:Tr) (r:Int) (h:0<=r) : -1<=roomF f t r/\roomF f t r<=r:=by
 rw[room_spec f t r h];have:=cnt_pos t;split <;> omega
theorem specRepeat_any (k:Int) (w:World):Calls Tryz.prog 201 #[.int .i64 k] w fun e w'=>e=.returned (.bool (repB k))/\w'=w:=by
 by_cases e1:k=6
 ·subst e1
  go_enter Tryz.func201,Tryz.ntmps201
  go_wp2;go_ret;exact⟨ret_b rfl,rfl⟩
 by_cases e2:k=7
 ·subst e2
  go_enter Tryz.func201,Tryz.ntmps201
  go_wp2;go_ret;exact⟨ret_b rfl,rfl⟩
 have H:Hid (repB k=(k==8)):=by show _=_;rw[repB,beq_eq_false_iff_ne.2 e1,beq_eq_false_iff_ne.2 e2];rfl
 have b1:=beq_eq_false_iff_ne.2 e1;have b2:=beq_eq_false_iff_ne.2 e2;clear e1 e2;go_enter Tryz.func201,Tryz.ntmps201
 go_wp2;go_ret;exact⟨ret_b H.out.symm,rfl⟩
def PartsC (f:Nat):Prop:=∀ (t:Tr) (B:Nat->Prop) (v:Value) (w:World),Rl w B t.l v ->
 Calls Tryz.prog 196 #[rx t.k t.s v,.int .i64 (7-(f:Int))] w fun e w'=>e=.returned (.int .i64 (partsF f t))/\Below w.heap.size w w'
theorem ret_j {a b:Int} (h:a=b):Ending.returned (.int .i64 a)=.returned (.int .i64 b):=by rw[h]
theorem parts_zero:PartsC 0:=by
 intro t B v w h;obtain⟨ao,cap,rfl,hl1,hl2,hl3⟩:=h.len;obtain⟨k,hk⟩:∃ k,t.k=k:=⟨_,rfl⟩;obtain⟨s,hsn⟩:∃ s,t.s=s:=⟨_,rfl⟩;have HR:Hid (((partsF 0 t:Nat):Int)=61):=rfl;rw[hk,hsn];clear h;go_enter Tryz.func196,Tryz.ntmps196
 go_wp2;go_ret;exact⟨ret_j HR.out.symm,(Below.refl _ _).alloc (Nat.le_refl _) _⟩
theorem parts_succ (f:Nat) (hf:f<=5) (ih:PartsC f):PartsC (f+1):=by
 intro t B v w h;have HE:Hid (partsF (f+1) t=t.l.foldl (partsG (partsF f)) 1):=rfl;obtain⟨R,hR⟩:∃ R,partsF (f+1) t=R:=⟨_,rfl⟩;obtain⟨k,hk⟩:∃ k,t.k=k:=⟨_,rfl⟩;obtain⟨s,hsn⟩:∃ s,t.s=s:=⟨_,rfl⟩;obtain⟨l,hln⟩:∃ l,t.l=l:=⟨_,rfl⟩;rw[hR,hln] at HE;rw[hln] at h;rw[hk,hsn,hR];clear hR hk hsn hln;obtain⟨ao,cap,rfl,hl1,hl2,hl3⟩:=h.len;have hm:cap<=9223372036854775807:=by unfold maxLen at hl2;omega
 have HH:=Hid.mk h;have HI:=Hid.mk ih;clear ih h hl2;obtain⟨d,hd⟩:∃ d:Int,7-((f+1:Nat):Int)=d:=⟨_,rfl⟩;rw[hd];have hd6:¬ 6<d:=by omega
 have hd7:d+1=7-(f:Int):=by omega
 have B0:Below w.heap.size w (w.alloc (.cells #[.int .i64 k,.string s,.slice ao l.length cap] 258)):=(Below.refl _ _).alloc (Nat.le_refl _) _;have B01:Below (w.heap.size+1) (w.alloc (.cells #[.int .i64 k,.string s,.slice ao l.length cap] 258)) (w.alloc (.cells #[.int .i64 k,.string s,.slice ao l.length cap] 258)):=Below.refl _ _;go_enter Tryz.func196,Tryz.ntmps196
 go_wp2;go_loopw [5,6] (fun q i wr=>∃ (k1 m:Nat),k1<=l.length/\i=.int .i64 k1/\q=.int .i64 m/\m<=1000/\Hid (m=(l.take k1).foldl (partsG (partsF f)) 1)/\Below (w.heap.size+1) (w.alloc (.cells #[.int .i64 k,.string s,.slice ao l.length cap] 258)) wr) (fun _ i _=>l.length-(intOf i).toNat)
 case atStart=>exact⟨0,1,Nat.zero_le _,rfl,rfl,by omega,rfl,B01⟩
 case round =>
  obtain⟨k1,m,hk,rfl,rfl,m1,Hm,hbel⟩:=hrel;clear B01;have hc1:=fun o=>hbel.cell (p:=⟨w.heap.size,o,none⟩) (by simp);have hbw:=B0.trans (hbel.mono (by omega));have hs1:=hbel.size;simp at hs1;by_cases hkl:k1<l.length
  ·have hi1:(k1:Int)<(l.length:Int):=by omega
   by_cases h60:m<=60
   ·have h60':(m:Int)<=60:=by omega
    obtain⟨b,off,V,rfl,hel⟩:=HH.out.elems (by intro hn;rw[hn] at hkl;simp at hkl);obtain⟨h3,hsub,hss⟩:=hel k1 hkl;have HT:=Hid.mk (parts_take (f:=f) l k1 hkl);obtain⟨t,ht⟩:∃ t,l[k1]=t:=⟨_,rfl⟩;rw[ht] at h3 hsub hss HT;clear ht hel;obtain⟨c0,c1,c2⟩:=h3.kept (w':=wr) (hbw.block b (World.block_lt_of_cell? w _ h3.1));have HCall:=Hid.mk (HI.out t B (V k1) wr (hsub.grow hbw));obtain⟨bd0,bd1⟩:=parts_bd f t;obtain⟨av,cv,hv,-,-,-⟩:=hsub.len;rw[hv] at c2 HCall;obtain⟨tk,htk⟩:∃ tk,t.k=tk:=⟨_,rfl⟩;obtain⟨ts,hts⟩:∃ ts,t.s=ts:=⟨_,rfl⟩;rw[htk,hts] at HCall;rw[htk] at c0;rw[hts] at c1;obtain⟨q,hq⟩:∃ q,partsF f t=q:=⟨_,rfl⟩;rw[hq] at bd0 bd1 HCall;have HQ:Hid ((l.take (k1+1)).foldl (partsG (partsF f)) 1=m+q):=by
     show _=_
     rw[HT.out,<- Hm.out,partsG,if_pos h60,hq]
    clear hsub hss h3 hv HT Hm hq htk hts hbw;go_wp2_with fail
    refine HCall.out.mono ?_;rintro e w2 ⟨rfl,hb2⟩;have B3:=hbel.trans (hb2.mono (by omega));clear hbel hb2 HCall hc1;go_wp2;go_roundw
    case rel=>exact⟨k1+1,m+q,by omega,by go_num,by go_num,by omega,HQ.out.symm,B3⟩
    case measure=>simp[intOf];omega
   ·have h60':¬ (m:Int)<=60:=by omega
    have HF:Hid ((R:Int)=m):=by
     show _=_
     have e1:=Hm.out;have:=parts_cut (f:=f) l k1 (by omega);rw[HE.out,this,<- e1]
    clear Hm HE;go_wp2;go_ret;exact⟨ret_j HF.out.symm,hbw⟩
  ·have e:k1=l.length:=by omega
   subst e;have HF:Hid ((R:Int)=m):=(by show _=_;rw[HE.out,Hm.out,List.take_length]);clear Hm HE;go_wp2;go_ret;exact⟨ret_j HF.out.symm,hbw⟩
theorem implRepeat_any (k:Int) (w:World):Calls Tryz.prog 274 #[.int .i64 k] w fun e w'=>e=.returned (.bool (repB k))/\w'=w:=by
 by_cases e1:k=6
 ·subst e1
  go_enter Tryz.func274,Tryz.ntmps274
  go_wp2;go_ret;exact⟨ret_b rfl,rfl⟩
 by_cases e2:k=7
 ·subst e2
  go_enter Tryz.func274,Tryz.ntmps274
  go_wp2;go_ret;exact⟨ret_b rfl,rfl⟩
 have H:Hid (repB k=(k==8)):=by show _=_;rw[repB,beq_eq_false_iff_ne.2 e1,beq_eq_false_iff_ne.2 e2];rfl
 have b1:=beq_eq_false_iff_ne.2 e1;have b2:=beq_eq_false_iff_ne.2 e2;clear e1 e2;go_enter Tryz.func274,Tryz.ntmps274
 go_wp2;go_ret;exact⟨ret_b H.out.symm,rfl⟩
theorem kinds_yes {l:List Tr} {k:Nat} {q:Int} (h:k<l.length) (hk:l[k].k=q):kinds l q=true:=by
 unfold kinds;rw[List.any_eq_true];exact⟨l[k],List.getElem_mem h,by simpa using hk⟩
theorem kinds_no {l:List Tr} {q:Int} (h:∀ j (hj:j<l.length),l[j].k≠q):kinds l q=false:=by
 unfold kinds;rw[List.any_eq_false];intro x hx;obtain⟨j,hj,rfl⟩:=List.getElem_of_mem hx
 simpa using h j hj
theorem hasKind_any (l:List Tr) (q:Int) (B:Nat->Prop) (v:Value) (w:World) (h:Rl w B l v) :
  Calls Tryz.prog 273 #[v,.int .i64 q] w fun e w'=>e=.returned (.bool (kinds l q))/\Below w.heap.size w w':=by
 obtain⟨ao,cap,rfl,hl1,hl2,hl3⟩:=h.len;have hm:cap<=9223372036854775807:=by unfold maxLen at hl2;omega
 have HH:=Hid.mk h;clear h hl2;go_enter Tryz.func273,Tryz.ntmps273
 go_wp2;go_loopw [9] (fun i wr=>∃ (k:Nat),k<=l.length/\i=.int .i64 k/\Hid (∀ j (hj:j<l.length),j<k->l[j].k≠q)/\Below w.heap.size w wr) (fun i _=>l.length-(intOf i).toNat)
 case atStart=>exact⟨0,Nat.zero_le _,rfl,fun j _ hj=>absurd hj (Nat.not_lt_zero j),Below.refl _ _⟩
 case round =>
  obtain⟨k,hk,rfl,Hk,hbel⟩:=hrel;by_cases hkl:k<l.length
  ·obtain⟨b,off,V,rfl,hel⟩:=HH.out.elems (by intro hn;rw[hn] at hkl;simp at hkl)
   obtain⟨h3,hsub,hss⟩:=hel k hkl;have HY:=Hid.mk (fun hq=>kinds_yes (q:=q) hkl hq);have HN:Hid (l[k].k≠q->∀ j (hj:j<l.length),j<k+1->l[j].k≠q):=by
    intro hne j hj hj1;by_cases hj2:j<k
    ·exact Hk.out j hj hj2
    ·obtain rfl:j=k:=by omega
     exact hne
   obtain⟨t,ht⟩:∃ t,l[k]=t:=⟨_,rfl⟩;rw[ht] at h3 hsub hss HY HN;clear ht hel;obtain⟨c0,c1,c2⟩:=h3.kept (w':=wr) (hbel.block b (World.block_lt_of_cell? w _ h3.1));obtain⟨av,cv,hv,-,-,-⟩:=hsub.len;rw[hv] at c2;have hi1:(k:Int)<(l.length:Int):=(by omega);have hs1:=hbel.size;clear hsub hss h3 hv;by_cases hq:t.k=q
   ·have HR:Hid (kinds l q=true):=HY.out hq
    have hb:(t.k==q)=true:=(by simpa using hq);clear HY HN Hk hq;go_wp2;go_ret;exact⟨ret_b HR.out.symm,hbel.alloc hs1 _⟩
   ·have HR:=Hid.mk (HN.out hq)
    have hb:(t.k==q)=false:=(by simpa using hq);clear HY HN Hk hq;go_wp2;go_roundw
    case rel=>exact⟨k+1,by omega,by go_num,HR,hbel.alloc hs1 _⟩
    case measure=>simp[intOf];omega
  ·have HR:Hid (kinds l q=false):=kinds_no fun j hj=>Hk.out j hj (by omega)
   clear Hk;go_wp2;go_ret;exact⟨ret_b HR.out.symm,hbel⟩
theorem nodeB1 {t:Tr} (h:t.k=1):nodeB t=(setB t.s 1&&decide (t.l.length=0)):=by rw[nodeB,if_pos h]
theorem nodeB3 {t:Tr} (h:t.k=3):nodeB t=(setB t.s 10&&decide (t.l.length=0)):=by rw[nodeB,if_neg (by omega),if_pos h]
theorem nodeB0 {t:Tr} (h:t.k=2\/t.k=9\/t.k=10\/t.k=11):nodeB t=(t.s.toList.isEmpty&&decide (t.l.length=0)):=by rw[nodeB,if_neg (by omega),if_neg (by omega),if_pos h]
theorem nodeB4 {t:Tr} (h:t.k=4\/t.k=5):nodeB t=(t.s.toList.isEmpty&&decide (2<=t.l.length)&&decide (t.l.length<=8)&&!kinds t.l t.k):=by
 rw[nodeB,if_neg (by omega),if_neg (by omega),if_neg (by omega),if_pos h]
theorem nodeB6 {t:Tr} (h:t.k=6\/t.k=7\/t.k=8):nodeB t=(t.s.toList.isEmpty&&decide (t.l.length=1)&&!repB (headK t.l)):=by
 rw[nodeB,if_neg (by omega),if_neg (by omega),if_neg (by omega),if_neg (by omega),if_pos h]
theorem nodeBx {t:Tr} (h:t.k<1\/11<t.k):nodeB t=false:=by
 rw[nodeB,if_neg (by omega),if_neg (by omega),if_neg (by omega),if_neg (by omega),if_neg (by omega)]
theorem len0 (l:List Tr):((l.length:Int)==0)=decide (l.length=0):=by
 by_cases h:l.length=0
 ·rw[decide_eq_true h,h];rfl
 ·rw[decide_eq_false h];exact beq_eq_false_iff_ne.2 (by omega)
theorem implNode_any (t:Tr) (B:Nat->Prop) (v:Value) (w:World) (h:Rl w B t.l v) (hs:t.s.size<=maxLen) :
  Calls Tryz.prog 267 #[rx t.k t.s v] w fun e w'=>e=.returned (.bool (nodeB t))/\Below w.heap.size w w':=by
 have HR1:=Hid.mk (fun w=>implRising_any t.s 1 w hs);have HR10:=Hid.mk (fun w=>implRising_any t.s 10 w hs);have H0:=Hid.mk (fun h=>nodeB0 (t:=t) h);have H1:=Hid.mk (fun h=>nodeB1 (t:=t) h);have H3:=Hid.mk (fun h=>nodeB3 (t:=t) h);have H4:=Hid.mk (fun h=>nodeB4 (t:=t) h);have H6:=Hid.mk (fun h=>nodeB6 (t:=t) h);have HX:=Hid.mk (fun h=>nodeBx (t:=t) h);obtain⟨nb,hnb⟩:∃ nb,nodeB t=nb:=⟨_,rfl⟩;obtain⟨k,hk⟩:∃ k,t.k=k:=⟨_,rfl⟩;obtain⟨s,hsn⟩:∃ s,t.s=s:=⟨_,rfl⟩;obtain⟨l,hln⟩:∃ l,t.l=l:=⟨_,rfl⟩;rw[hk,hsn,hnb];rw[hnb,hk,hsn,hln] at H0 H1 H3 H4 H6;rw[hnb,hk] at HX;rw[hsn] at hs HR1 HR10;rw[hln] at h;clear hk hsn hln hnb;have HL0:=Hid.mk (len0 l);obtain⟨ao,cap,rfl,hl1,hl2,hl3⟩:=h.len;have hm:cap<=9223372036854775807:=by unfold maxLen at hl2;omega
 have HH:=Hid.mk h;have HK:=Hid.mk (fun(w':World) (hb:Below w.heap.size w w')=>hasKind_any l k B _ w' (h.grow hb));clear h hl2;have B0:Below w.heap.size w (w.alloc (.cells #[.int .i64 k,.string s,.slice ao l.length cap] 258)):=(Below.refl _ _).alloc (Nat.le_refl _) _;by_cases k2:k=2
 ·subst k2
  have HN:=Hid.mk (H0.out (by omega));by_cases he:s.toList.isEmpty=true
  ·have HR:Hid (((l.length:Int)==0)=nb):=by show _=_;rw[HN.out,he,HL0.out];rfl
   clear H0 H1 H3 H4 H6 HX HN;go_enter Tryz.func267,Tryz.ntmps267
   go_wp2;go_ret;exact⟨ret_b HR.out,B0⟩
  ·have he':s.toList.isEmpty=false:=by simpa using he
   have HR:Hid (false=nb):=(by show _=_;rw[HN.out,he'];rfl);clear he;clear H0 H1 H3 H4 H6 HX HN;go_enter Tryz.func267,Tryz.ntmps267
   go_wp2;go_ret;exact⟨ret_b HR.out,B0⟩
 by_cases k9:k=9
 ·subst k9
  have HN:=Hid.mk (H0.out (by omega));by_cases he:s.toList.isEmpty=true
  ·have HR:Hid (((l.length:Int)==0)=nb):=by show _=_;rw[HN.out,he,HL0.out];rfl
   clear H0 H1 H3 H4 H6 HX HN;go_enter Tryz.func267,Tryz.ntmps267
   go_wp2;go_ret;exact⟨ret_b HR.out,B0⟩
  ·have he':s.toList.isEmpty=false:=by simpa using he
   have HR:Hid (false=nb):=(by show _=_;rw[HN.out,he'];rfl);clear he;clear H0 H1 H3 H4 H6 HX HN;go_enter Tryz.func267,Tryz.ntmps267
   go_wp2;go_ret;exact⟨ret_b HR.out,B0⟩
 by_cases k10:k=10
 ·subst k10
  have HN:=Hid.mk (H0.out (by omega));by_cases he:s.toList.isEmpty=true
  ·have HR:Hid (((l.length:Int)==0)=nb):=by show _=_;rw[HN.out,he,HL0.out];rfl
   clear H0 H1 H3 H4 H6 HX HN;go_enter Tryz.func267,Tryz.ntmps267
   go_wp2;go_ret;exact⟨ret_b HR.out,B0⟩
  ·have he':s.toList.isEmpty=false:=by simpa using he
   have HR:Hid (false=nb):=(by show _=_;rw[HN.out,he'];rfl);clear he;clear H0 H1 H3 H4 H6 HX HN;go_enter Tryz.func267,Tryz.ntmps267
   go_wp2;go_ret;exact⟨ret_b HR.out,B0⟩
 by_cases k11:k=11
 ·subst k11
  have HN:=Hid.mk (H0.out (by omega));by_cases he:s.toList.isEmpty=true
  ·have HR:Hid (((l.length:Int)==0)=nb):=by show _=_;rw[HN.out,he,HL0.out];rfl
   clear H0 H1 H3 H4 H6 HX HN;go_enter Tryz.func267,Tryz.ntmps267
   go_wp2;go_ret;exact⟨ret_b HR.out,B0⟩
  ·have he':s.toList.isEmpty=false:=by simpa using he
   have HR:Hid (false=nb):=(by show _=_;rw[HN.out,he'];rfl);clear he;clear H0 H1 H3 H4 H6 HX HN;go_enter Tryz.func267,Tryz.ntmps267
   go_wp2;go_ret;exact⟨ret_b HR.out,B0⟩
 by_cases k1:k=1
 ·subst k1
  have HN:=Hid.mk (H1.out rfl);cases hb:setB s 1 with
  | true =>
   rw[hb] at HR1;have HR:Hid (((l.length:Int)==0)=nb):=(by show _=_;rw[HN.out,hb,HL0.out];rfl);clear H0 H1 H3 H4 H6 HX HN hb;go_enter Tryz.func267,Tryz.ntmps267
   go_wp2_with (go_at_call 272;refine(HR1.out _).mono ?_;rintro e w' ⟨rfl,n,rfl⟩)
   go_ret;exact⟨ret_b HR.out,B0.trans (Below.drewSelf _ _ _)⟩
  | false =>
   rw[hb] at HR1;have HR:Hid (false=nb):=(by show _=_;rw[HN.out,hb];rfl);clear H0 H1 H3 H4 H6 HX HN hb;go_enter Tryz.func267,Tryz.ntmps267
   go_wp2_with (go_at_call 272;refine(HR1.out _).mono ?_;rintro e w' ⟨rfl,n,rfl⟩)
   go_ret;exact⟨ret_b HR.out,B0.trans (Below.drewSelf _ _ _)⟩
 by_cases k3:k=3
 ·subst k3
  have HN:=Hid.mk (H3.out rfl);cases hb:setB s 10 with
  | true =>
   rw[hb] at HR10;have HR:Hid (((l.length:Int)==0)=nb):=(by show _=_;rw[HN.out,hb,HL0.out];rfl);clear H0 H1 H3 H4 H6 HX HN hb;go_enter Tryz.func267,Tryz.ntmps267
   go_wp2_with (go_at_call 272;refine(HR10.out _).mono ?_;rintro e w' ⟨rfl,n,rfl⟩)
   go_ret;exact⟨ret_b HR.out,B0.trans (Below.drewSelf _ _ _)⟩
  | false =>
   rw[hb] at HR10;have HR:Hid (false=nb):=(by show _=_;rw[HN.out,hb];rfl);clear H0 H1 H3 H4 H6 HX HN hb;go_enter Tryz.func267,Tryz.ntmps267
   go_wp2_with (go_at_call 272;refine(HR10.out _).mono ?_;rintro e w' ⟨rfl,n,rfl⟩)
   go_ret;exact⟨ret_b HR.out,B0.trans (Below.drewSelf _ _ _)⟩
 by_cases k4:k=4
 ·subst k4
  have HN:=Hid.mk (H4.out (by omega));by_cases he:s.toList.isEmpty=true
  rotate_left
  ·have he':s.toList.isEmpty=false:=by simpa using he
   have HR:Hid (false=nb):=(by show _=_;rw[HN.out,he'];rfl);clear he;clear H0 H1 H3 H4 H6 HX HN;go_enter Tryz.func267,Tryz.ntmps267
   go_wp2;go_ret;exact⟨ret_b HR.out,B0⟩
  by_cases h2:2<=l.length
  rotate_left
  ·have HR:Hid (false=nb):=by show _=_;rw[HN.out,decide_eq_false h2];simp
   have h2':¬ (2:Int)<=(l.length:Int):=(by omega);clear H0 H1 H3 H4 H6 HX HN;go_enter Tryz.func267,Tryz.ntmps267
   go_wp2;go_ret;exact⟨ret_b HR.out,B0⟩
  have h2':(2:Int)<=(l.length:Int):=(by omega);by_cases h8:l.length<=8
  rotate_left
  ·have HR:Hid (false=nb):=by show _=_;rw[HN.out,decide_eq_false h8];simp
   have h8':¬ (l.length:Int)<=8:=(by omega);clear H0 H1 H3 H4 H6 HX HN;go_enter Tryz.func267,Tryz.ntmps267
   go_wp2;go_ret;exact⟨ret_b HR.out,B0⟩
  ·have h8':(l.length:Int)<=8:=by omega
   have HR:Hid ((!kinds l 4)=nb):=(by show _=_;rw[HN.out,he,decide_eq_true h2,decide_eq_true h8];simp);clear H0 H1 H3 H4 H6 HX HN;go_enter Tryz.func267,Tryz.ntmps267
   go_wp2_with fail
   refine(HK.out _ B0).mono ?_;rintro e w1 ⟨rfl,hb1⟩;have B1:=B0.trans (hb1.mono (by simp));clear B0 hb1 HK;go_wp2;go_ret;exact⟨ret_b HR.out,B1⟩
 by_cases k5:k=5
 ·subst k5
  have HN:=Hid.mk (H4.out (by omega));by_cases he:s.toList.isEmpty=true
  rotate_left
  ·have he':s.toList.isEmpty=false:=by simpa using he
   have HR:Hid (false=nb):=(by show _=_;rw[HN.out,he'];rfl);clear he;clear H0 H1 H3 H4 H6 HX HN;go_enter Tryz.func267,Tryz.ntmps267
   go_wp2;go_ret;exact⟨ret_b HR.out,B0⟩
  by_cases h2:2<=l.length
  rotate_left
  ·have HR:Hid (false=nb):=by show _=_;rw[HN.out,decide_eq_false h2];simp
   have h2':¬ (2:Int)<=(l.length:Int):=(by omega);clear H0 H1 H3 H4 H6 HX HN;go_enter Tryz.func267,Tryz.ntmps267
   go_wp2;go_ret;exact⟨ret_b HR.out,B0⟩
  have h2':(2:Int)<=(l.length:Int):=(by omega);by_cases h8:l.length<=8
  rotate_left
  ·have HR:Hid (false=nb):=by show _=_;rw[HN.out,decide_eq_false h8];simp
   have h8':¬ (l.length:Int)<=8:=(by omega);clear H0 H1 H3 H4 H6 HX HN;go_enter Tryz.func267,Tryz.ntmps267
   go_wp2;go_ret;exact⟨ret_b HR.out,B0⟩
  ·have h8':(l.length:Int)<=8:=by omega
   have HR:Hid ((!kinds l 5)=nb):=(by show _=_;rw[HN.out,he,decide_eq_true h2,decide_eq_true h8];simp);clear H0 H1 H3 H4 H6 HX HN;go_enter Tryz.func267,Tryz.ntmps267
   go_wp2_with fail
   refine(HK.out _ B0).mono ?_;rintro e w1 ⟨rfl,hb1⟩;have B1:=B0.trans (hb1.mono (by simp));clear B0 hb1 HK;go_wp2;go_ret;exact⟨ret_b HR.out,B1⟩
 by_cases k6:k=6
 ·subst k6
  have HN:=Hid.mk (H6.out (by omega));by_cases he:s.toList.isEmpty=true
  rotate_left
  ·have he':s.toList.isEmpty=false:=by simpa using he
   have HR:Hid (false=nb):=(by show _=_;rw[HN.out,he'];rfl);clear he;clear H0 H1 H3 H4 H6 HX HN;go_enter Tryz.func267,Tryz.ntmps267
   go_wp2;go_ret;exact⟨ret_b HR.out,B0⟩
  by_cases h1:l.length=1
  rotate_left
  ·have HR:Hid (false=nb):=by show _=_;rw[HN.out,decide_eq_false h1];simp
   have h1':((l.length:Int)==1)=false:=beq_eq_false_iff_ne.2 (by omega);clear H0 H1 H3 H4 H6 HX HN;go_enter Tryz.func267,Tryz.ntmps267
   go_wp2;go_ret;exact⟨ret_b HR.out,B0⟩
  ·obtain⟨x,rfl⟩:=List.length_eq_one_iff.1 h1
   have HR:Hid ((!repB x.k)=nb):=(by show _=_;rw[HN.out,he];simp[headK]);obtain⟨b,off,V,rfl,hel⟩:=HH.out.elems (by simp);obtain⟨h3,hsub,hss⟩:=hel 0 (by simp);obtain⟨c0,c1,c2⟩:=h3.kept (w':=w.alloc (.cells #[.int .i64 6,.string s,.slice (some ⟨b,off,none⟩) 1 cap] 258)) (B0.block b (World.block_lt_of_cell? w _ h3.1));simp only[Nat.zero_mul,Nat.add_zero,List.getElem_cons_zero] at c0 c1 c2;obtain⟨q,hq⟩:∃ q,x.k=q:=⟨_,rfl⟩;rw[hq] at c0 HR;have h1':((([x]:List Tr).length:Int)==1)=true:=(by simp);clear hel h3 hsub hss c1 c2 hq h1;clear H0 H1 H3 H4 H6 HX HN HK HH;go_enter Tryz.func267,Tryz.ntmps267
   go_wp2_with (go_at_call 274;refine(implRepeat_any _ _).mono ?_;rintro e w' ⟨rfl,rfl⟩)
   go_ret;exact⟨ret_b HR.out,B0⟩
 by_cases k7:k=7
 ·subst k7
  have HN:=Hid.mk (H6.out (by omega));by_cases he:s.toList.isEmpty=true
  rotate_left
  ·have he':s.toList.isEmpty=false:=by simpa using he
   have HR:Hid (false=nb):=(by show _=_;rw[HN.out,he'];rfl);clear he;clear H0 H1 H3 H4 H6 HX HN;go_enter Tryz.func267,Tryz.ntmps267
   go_wp2;go_ret;exact⟨ret_b HR.out,B0⟩
  by_cases h1:l.length=1
  rotate_left
  ·have HR:Hid (false=nb):=by show _=_;rw[HN.out,decide_eq_false h1];simp
   have h1':((l.length:Int)==1)=false:=beq_eq_false_iff_ne.2 (by omega);clear H0 H1 H3 H4 H6 HX HN;go_enter Tryz.func267,Tryz.ntmps267
   go_wp2;go_ret;exact⟨ret_b HR.out,B0⟩
  ·obtain⟨x,rfl⟩:=List.length_eq_one_iff.1 h1
   have HR:Hid ((!repB x.k)=nb):=(by show _=_;rw[HN.out,he];simp[headK]);obtain⟨b,off,V,rfl,hel⟩:=HH.out.elems (by simp);obtain⟨h3,hsub,hss⟩:=hel 0 (by simp);obtain⟨c0,c1,c2⟩:=h3.kept (w':=w.alloc (.cells #[.int .i64 7,.string s,.slice (some ⟨b,off,none⟩) 1 cap] 258)) (B0.block b (World.block_lt_of_cell? w _ h3.1));simp only[Nat.zero_mul,Nat.add_zero,List.getElem_cons_zero] at c0 c1 c2;obtain⟨q,hq⟩:∃ q,x.k=q:=⟨_,rfl⟩;rw[hq] at c0 HR;have h1':((([x]:List Tr).length:Int)==1)=true:=(by simp);clear hel h3 hsub hss c1 c2 hq h1;clear H0 H1 H3 H4 H6 HX HN HK HH;go_enter Tryz.func267,Tryz.ntmps267
   go_wp2_with (go_at_call 274;refine(implRepeat_any _ _).mono ?_;rintro e w' ⟨rfl,rfl⟩)
   go_ret;exact⟨ret_b HR.out,B0⟩
 by_cases k8:k=8
 ·subst k8
  have HN:=Hid.mk (H6.out (by omega));by_cases he:s.toList.isEmpty=true
  rotate_left
  ·have he':s.toList.isEmpty=false:=by simpa using he
   have HR:Hid (false=nb):=(by show _=_;rw[HN.out,he'];rfl);clear he;clear H0 H1 H3 H4 H6 HX HN;go_enter Tryz.func267,Tryz.ntmps267
   go_wp2;go_ret;exact⟨ret_b HR.out,B0⟩
  by_cases h1:l.length=1
  rotate_left
  ·have HR:Hid (false=nb):=by show _=_;rw[HN.out,decide_eq_false h1];simp
   have h1':((l.length:Int)==1)=false:=beq_eq_false_iff_ne.2 (by omega);clear H0 H1 H3 H4 H6 HX HN;go_enter Tryz.func267,Tryz.ntmps267
   go_wp2;go_ret;exact⟨ret_b HR.out,B0⟩
  ·obtain⟨x,rfl⟩:=List.length_eq_one_iff.1 h1
   have HR:Hid ((!repB x.k)=nb):=(by show _=_;rw[HN.out,he];simp[headK]);obtain⟨b,off,V,rfl,hel⟩:=HH.out.elems (by simp);obtain⟨h3,hsub,hss⟩:=hel 0 (by simp);obtain⟨c0,c1,c2⟩:=h3.kept (w':=w.alloc (.cells #[.int .i64 8,.string s,.slice (some ⟨b,off,none⟩) 1 cap] 258)) (B0.block b (World.block_lt_of_cell? w _ h3.1));simp only[Nat.zero_mul,Nat.add_zero,List.getElem_cons_zero] at c0 c1 c2;obtain⟨q,hq⟩:∃ q,x.k=q:=⟨_,rfl⟩;rw[hq] at c0 HR;have h1':((([x]:List Tr).length:Int)==1)=true:=(by simp);clear hel h3 hsub hss c1 c2 hq h1;clear H0 H1 H3 H4 H6 HX HN HK HH;go_enter Tryz.func267,Tryz.ntmps267
   go_wp2_with (go_at_call 274;refine(implRepeat_any _ _).mono ?_;rintro e w' ⟨rfl,rfl⟩)
   go_ret;exact⟨ret_b HR.out,B0⟩
 have HR:Hid (nb=false):=HX.out (by omega);clear H0 H1 H3 H4 H6 HX HR1 HR10;go_enter Tryz.func267,Tryz.ntmps267
 go_wp2;go_ret;exact⟨ret_b HR.out.symm,B0⟩
end Go.Proofs.YtkbijjkgfojchaaGreat
