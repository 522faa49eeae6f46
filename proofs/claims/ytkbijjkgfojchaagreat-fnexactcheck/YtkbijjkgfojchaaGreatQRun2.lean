/- Tokens: what is right,as the program asks it and as the document's model does. .. -/
import Derived.Test.YtkbijjkgfojchaaGreatQRun1
import Derived.Shelf.Strconv.Clone
namespace Go.Proofs.YtkbijjkgfojchaaGreat
set_option maxHeartbeats 4000000
open Go.RowKit
set_option maxRecDepth 8000
theorem ret_tb {a b:Bool} (h:a=b):Ending.returned (.bool a)=.returned (.bool b):=by rw[h]
def bwB (lo hi c:Int):Bool:=decide (lo<=c)&&decide (c<=hi)
theorem bwB_yes {lo hi c:Int} (h0:lo<=c) (h1:c<=hi):bwB lo hi c=true:=by simp[bwB,h0,h1]
theorem bwB_lo {lo hi c:Int} (h:c<lo):bwB lo hi c=false:=by simp[bwB];omega
theorem bwB_hi {lo hi c:Int} (h:hi<c):bwB lo hi c=false:=by simp[bwB];omega
theorem bwB_case (lo hi c:Int):(bwB lo hi c=true/\lo<=c/\c<=hi)\/(bwB lo hi c=false/\(c<lo\/hi<c)):=by
 by_cases h0:lo<=c
 ·by_cases h1:c<=hi
  ·exact .inl ⟨bwB_yes h0 h1,h0,h1⟩
  ·exact .inr ⟨bwB_hi (by omega),by omega⟩
 ·exact .inr ⟨bwB_lo (by omega),by omega⟩
def smB (c:Int):Bool:=bwB 97 122 c
def dgB (c:Int):Bool:=bwB 48 57 c
def nbB (c:Int):Bool:=smB c||dgB c
def pnB (e c:Int):Bool:=bwB 32 126 c&&(c != e)
def allB (p:Int->Bool) (s:ByteArray):Bool:=(txt s).all p
theorem allB_yes {p:Int->Bool} {s:ByteArray} (h:∀ j,j<s.size->p ((txt s).getD j 0)=true):allB p s=true:=by
 unfold allB;rw[List.all_eq_true];intro x hx;obtain⟨j,hj,rfl⟩:=List.getElem_of_mem hx;have:=h j (by rw[<- txt_length];exact hj);rw[List.getD,List.getElem?_eq_getElem hj] at this;exact this
theorem allB_no {p:Int->Bool} {s:ByteArray} {j:Nat} (hj:j<s.size) (h:p ((txt s).getD j 0)=false):allB p s=false:=by
 unfold allB;rw[List.all_eq_false];have hj':j<(txt s).length:=by rw[txt_length];exact hj
 rw[List.getD,List.getElem?_eq_getElem hj'] at h;exact⟨_,List.getElem_mem hj',by simpa using h⟩
def nameB (s:ByteArray):Bool:=bwB 1 8 s.size&&smB ((txt s).getD 0 0)&&allB nbB s
def tkMarks:List (List UInt8):=[[123],[125],[40],[41],[91],[93],[44],[59],[36],[43],[45],[42],[47],[37],[46],[60],[60,61],[61,61],[33,61],[62],[62,61],[38,38],[124,124],[33],[126],[61]]
def mkB (s:ByteArray):Bool:=tkMarks.contains s.toList
theorem byte_range (s:ByteArray) (j:Nat) (h:j<s.size):0<=(txt s).getD j 0/\(txt s).getD j 0<=255:=by
 rw[<- byte_txt s j h];have:=s[j].toNat_lt;omega
theorem l1Bw_any (x lo hi:Int) (w:World):Calls Tryz.prog 132 #[.int .i64 x,.int .i64 lo,.int .i64 hi] w fun e w'=>e=.returned (.bool (bwB lo hi x))/\w'=w:=by
 by_cases h0:lo<=x
 ·by_cases h1:x<=hi
  ·have H:=Hid.mk (bwB_yes h0 h1)
   go_enter Tryz.func132,Tryz.ntmps132
   go_wp2;go_ret;exact⟨ret_tb H.out.symm,rfl⟩
  ·have H:=Hid.mk (bwB_hi (lo:=lo) (show hi<x by omega))
   go_enter Tryz.func132,Tryz.ntmps132
   go_wp2;go_ret;exact⟨ret_tb H.out.symm,rfl⟩
 ·have H:=Hid.mk (bwB_lo (hi:=hi) (show x<lo by omega))
  go_enter Tryz.func132,Tryz.ntmps132
  go_wp2;go_ret;exact⟨ret_tb H.out.symm,rfl⟩
theorem l7Small_any (c:Int) (w:World) (h0:0<=c) (h1:c<=255):Calls Tryz.prog 147 #[.int .u8 c] w fun e w'=>e=.returned (.bool (smB c))/\w'=w:=by
 go_enter Tryz.func147,Tryz.ntmps147
 go_wp2_with (go_at_call 132;refine(l1Bw_any _ _ _ _).mono ?_;rintro e w' ⟨rfl,rfl⟩)
 go_ret;exact⟨rfl,rfl⟩
theorem l2Dig_any (c:Int) (w:World) (h0:0<=c) (h1:c<=255):Calls Tryz.prog 148 #[.int .u8 c] w fun e w'=>e=.returned (.bool (dgB c))/\w'=w:=by
 go_enter Tryz.func148,Tryz.ntmps148
 go_wp2_with (go_at_call 132;refine(l1Bw_any _ _ _ _).mono ?_;rintro e w' ⟨rfl,rfl⟩)
 go_ret;exact⟨rfl,rfl⟩
theorem isSmall_any (c:Int) (w:World):Calls Tryz.prog 157 #[.int .u8 c] w fun e w'=>e=.returned (.bool (smB c))/\w'=w:=by
 rcases bwB_case 97 122 c with⟨h,h2,h3⟩ | ⟨h,h2⟩
 ·have H:Hid (smB c=true):=h
  clear h;go_enter Tryz.func157,Tryz.ntmps157
  go_wp2;go_ret;exact⟨ret_tb H.out.symm,rfl⟩
 ·have H:Hid (smB c=false):=h
  clear h;rcases h2 with h2 | h2
  ·go_enter Tryz.func157,Tryz.ntmps157
   go_wp2;go_ret;exact⟨ret_tb H.out.symm,rfl⟩
  ·have h3:97<=c:=by omega
   have H2:Hid (decide (c<=122)=smB c):=(by show _=_;rw[H.out];simp;omega);go_enter Tryz.func157,Tryz.ntmps157
   go_wp2;go_ret;exact⟨ret_tb H2.out,rfl⟩
theorem isDigit_any (c:Int) (w:World):Calls Tryz.prog 181 #[.int .u8 c] w fun e w'=>e=.returned (.bool (dgB c))/\w'=w:=by
 rcases bwB_case 48 57 c with⟨h,h2,h3⟩ | ⟨h,h2⟩
 ·have H:Hid (dgB c=true):=h
  clear h;go_enter Tryz.func181,Tryz.ntmps181
  go_wp2;go_ret;exact⟨ret_tb H.out.symm,rfl⟩
 ·have H:Hid (dgB c=false):=h
  clear h;rcases h2 with h2 | h2
  ·go_enter Tryz.func181,Tryz.ntmps181
   go_wp2;go_ret;exact⟨ret_tb H.out.symm,rfl⟩
  ·have h3:48<=c:=by omega
   have H2:Hid (decide (c<=57)=dgB c):=(by show _=_;rw[H.out];simp;omega);go_enter Tryz.func181,Tryz.ntmps181
   go_wp2;go_ret;exact⟨ret_tb H2.out,rfl⟩
theorem isNameByte_any (c:Int) (w:World):Calls Tryz.prog 158 #[.int .u8 c] w fun e w'=>e=.returned (.bool (nbB c))/\w'=w:=by
 have HS:=Hid.mk (isSmall_any c);cases hs:smB c with
 | true =>
  have H:Hid (nbB c=true):=(by show _=_;simp[nbB,hs]);rw[hs] at HS;clear hs;go_enter Tryz.func158,Tryz.ntmps158
  go_wp2_with fail
  refine(HS.out _).mono ?_;rintro e w' ⟨rfl,rfl⟩;go_wp2;go_ret;exact⟨ret_tb H.out.symm,rfl⟩
 | false =>
  have H:Hid (nbB c=dgB c):=(by show _=_;simp[nbB,hs]);rw[hs] at HS;clear hs;go_enter Tryz.func158,Tryz.ntmps158
  go_wp2_with fail
  refine(HS.out _).mono ?_;rintro e w' ⟨rfl,rfl⟩;go_wp2_with fail
  refine(isDigit_any c _).mono ?_;rintro e w' ⟨rfl,rfl⟩;go_wp2;go_ret;exact⟨ret_tb H.out.symm,rfl⟩
def wordsL:List (List UInt8):=[[98,101,103,105,110],[101,110,100],[102,117,110,99],[112,114,105,110,116],[105,102],[101,108,115,101],[119,104,105,108,101],[102,111,114],[105,110],[110,101,120,116],[101,120,105,116],[114,101,116,117,114,110],[100,101,108,101,116,101],[108,101,110,103,116,104],[115,117,98,115,116,114],[105,110,100,101,120],[117,112,112,101,114],[103,115,117,98],[110,114],[110,102]]
def wdB (s:ByteArray):Bool:=wordsL.contains s.toList
def opsL:List (List UInt8):=[[43],[45],[42],[47],[37],[46],[60],[60,61],[61,61],[33,61],[62],[62,61],[38,38],[124,124]]
def opB (s:ByteArray):Bool:=opsL.contains s.toList
def nmB (s:ByteArray):Bool:=nameB s&&!wdB s
theorem sEmp (s:ByteArray):s.toList.isEmpty=true/\s.size=0\/s.toList.isEmpty=false/\s.size≠0:=by
 have h2:s.toList=s.data.toList:=ByteArray.toList_eq s;have h3:s.size=s.data.toList.length:=by rw[Array.length_toList];rfl
 rw[h2,h3];cases s.data.toList <;> simp
theorem pn_yes {e c:Int} (h0:32<=c) (h1:c<=126) (h2:c≠e):pnB e c=true:=by simp[pnB,bwB,h0,h1,h2]
theorem pn_case (e c:Int):(pnB e c=true/\32<=c/\c<=126/\c≠e)\/(pnB e c=false/\c<32)\/(pnB e c=false/\32<=c/\126<c)\/(pnB e c=false/\32<=c/\c<=126/\c=e):=by
 by_cases h0:32<=c
 ·by_cases h1:c<=126
  ·by_cases h2:c=e
   ·exact .inr (.inr (.inr ⟨by simp[pnB,h2],h0,h1,h2⟩))
   ·exact .inl ⟨pn_yes h0 h1 h2,h0,h1,h2⟩
  ·exact .inr (.inr (.inl ⟨by simp[pnB,bwB];omega,h0,by omega⟩))
 ·exact .inr (.inl ⟨by simp[pnB,bwB];omega,by omega⟩)
theorem isPlain_any (s:ByteArray) (e:Int) (w:World) (hs:s.size<=maxLen):Calls Tryz.prog 228 #[.string s,.int .u8 e] w fun r w'=>r=.returned (.bool (allB (pnB e) s))/\w'=w:=by
 unfold maxLen at hs;have HY:=Hid.mk (fun h=>allB_yes (p:=pnB e) (s:=s) h);have HNo:=Hid.mk (fun j hj h=>allB_no (p:=pnB e) (s:=s) (j:=j) hj h);generalize allB (pnB e) s=R at *;go_enter Tryz.func228,Tryz.ntmps228
 go_wp2;go_loop [8] (fun i=>∃ k:Nat,i=.int .i64 k/\k<=s.size/\Hid (∀ j,j<k->pnB e ((txt s).getD j 0)=true)) (fun i=>s.size-(intOf i).toNat)
 case atStart=>exact⟨0,rfl,Nat.zero_le _,fun j hj=>by omega⟩
 case round =>
  obtain⟨k,rfl,hk,HA⟩:=hrel;by_cases hlt:k<s.size
  ·have hc:=byte_txt s k hlt
   have hr:=byte_range s k hlt;have HN1:=Hid.mk (HNo.out k hlt);have HY1:Hid (pnB e ((txt s).getD k 0)=true->∀ j,j<k+1->pnB e ((txt s).getD j 0)=true):=fun h j hj=>by
    by_cases e1:j=k
    ·subst e1;exact h
    ·exact HA.out j (by omega)
   generalize (txt s).getD k 0=c at hc hr HN1 HY1;have hki:(k:Int)<(s.size:Int):=(by omega);rcases pn_case e c with⟨h,h0,h1,h2⟩ | ⟨h,h0⟩ | ⟨h,h0,h1⟩ | ⟨h,h0,h1,h2⟩
   ·have HA2:=Hid.mk (HY1.out h)
    have h2':(c==e)=false:=(by simpa using h2);clear HN1 HY1 h h2 HA;go_wp2;go_round
    case rel=>exact⟨k+1,by go_num,by omega,HA2⟩
    case measure=>simp[intOf];omega
   ·have HF:=Hid.mk (HN1.out h)
    clear HN1 HY1 h HA;go_wp2;go_ret;exact⟨ret_tb HF.out.symm,rfl⟩
   ·have HF:=Hid.mk (HN1.out h)
    clear HN1 HY1 h HA;go_wp2;go_ret;exact⟨ret_tb HF.out.symm,rfl⟩
   ·have HF:=Hid.mk (HN1.out h)
    have h2':(c==e)=true:=(by simpa using h2);clear HN1 HY1 h HA h2;go_wp2;go_ret;exact⟨ret_tb HF.out.symm,rfl⟩
  ·have HF:=Hid.mk (HY.out fun j hj=>HA.out j (by omega))
   clear HA HY HNo;go_wp2;go_ret;exact⟨ret_tb HF.out.symm,rfl⟩
theorem nameB_empty {s:ByteArray} (h:s.size=0):nameB s=false:=by simp[nameB,bwB,h]
theorem nameB_long {s:ByteArray} (h:8<s.size):nameB s=false:=by simp[nameB,bwB];omega
theorem nameB_first {s:ByteArray} (h:smB ((txt s).getD 0 0)=false):nameB s=false:=by unfold nameB;rw[h];simp
theorem nameB_no {s:ByteArray} {j:Nat} (hj:j<s.size) (h:nbB ((txt s).getD j 0)=false):nameB s=false:=by unfold nameB;rw[allB_no hj h];simp
theorem nameB_yes {s:ByteArray} (h0:1<=s.size) (h8:s.size<=8) (h1:smB ((txt s).getD 0 0)=true) (h:∀ j,j<s.size->nbB ((txt s).getD j 0)=true):nameB s=true:=by
 unfold nameB;rw[h1,allB_yes h,bwB_yes (by omega) (by omega)];rfl
theorem isName_any (s:ByteArray) (w:World) (hs:s.size<=maxLen):Calls Tryz.prog 118 #[.string s] w fun r w'=>r=.returned (.bool (nameB s))/\w'=w:=by
 unfold maxLen at hs;have HE:=Hid.mk (fun h=>nameB_empty (s:=s) h);have HLo:=Hid.mk (fun h=>nameB_long (s:=s) h);have HFi:=Hid.mk (fun h=>nameB_first (s:=s) h);have HNo:=Hid.mk (fun j hj h=>nameB_no (s:=s) (j:=j) hj h);have HY:=Hid.mk (fun h0 h8 h1 h=>nameB_yes (s:=s) h0 h8 h1 h);generalize nameB s=R at *;rcases sEmp s with⟨he,hz⟩ | ⟨he,hz⟩
 ·have HF:=Hid.mk (HE.out hz)
  go_enter Tryz.func118,Tryz.ntmps118
  go_wp2;go_ret;exact⟨ret_tb HF.out.symm,rfl⟩
 by_cases h8:8<s.size
 ·have HF:=Hid.mk (HLo.out h8)
  have h8':(8:Int)<(s.size:Int):=(by omega);go_enter Tryz.func118,Tryz.ntmps118
  go_wp2;go_ret;exact⟨ret_tb HF.out.symm,rfl⟩
 have h8':¬ (8:Int)<(s.size:Int):=by omega
 have hp:0<s.size:=by omega
 have hc0:=byte_txt s 0 hp;have hr0:=byte_range s 0 hp;generalize (txt s).getD 0 0=c0 at hc0 hr0 HFi HY;cases hsm:smB c0 with
 | false =>
  have HF:=Hid.mk (HFi.out hsm);have HS:=Hid.mk (isSmall_any c0);rw[hsm] at HS;clear hsm HY HNo HFi HLo HE;go_enter Tryz.func118,Tryz.ntmps118
  go_wp2_with fail
  refine(HS.out _).mono ?_;rintro e w' ⟨rfl,rfl⟩;go_wp2;go_ret;exact⟨ret_tb HF.out.symm,rfl⟩
 | true =>
  have HYY:=Hid.mk (HY.out (by omega) (by omega) hsm);have HS:=Hid.mk (isSmall_any c0);rw[hsm] at HS;clear hsm HY HFi HLo HE;go_enter Tryz.func118,Tryz.ntmps118
  go_wp2_with fail
  refine(HS.out _).mono ?_;rintro e w' ⟨rfl,rfl⟩;clear HS;go_wp2;go_loop [19] (fun i=>∃ k:Nat,i=.int .i64 k/\k<=s.size/\Hid (∀ j,j<k->nbB ((txt s).getD j 0)=true)) (fun i=>s.size-(intOf i).toNat)
  case atStart=>exact⟨0,rfl,Nat.zero_le _,fun j hj=>by omega⟩
  case round =>
   obtain⟨k,rfl,hk,HA⟩:=hrel;by_cases hlt:k<s.size
   ·have hc:=byte_txt s k hlt
    have hr:=byte_range s k hlt;have HN1:=Hid.mk (HNo.out k hlt);have HY1:Hid (nbB ((txt s).getD k 0)=true->∀ j,j<k+1->nbB ((txt s).getD j 0)=true):=fun h j hj=>by
     by_cases e1:j=k
     ·subst e1;exact h
     ·exact HA.out j (by omega)
    generalize (txt s).getD k 0=c at hc hr HN1 HY1;have HS:=Hid.mk (isNameByte_any c);have hki:(k:Int)<(s.size:Int):=(by omega);clear hc0;cases h:nbB c with
    | true =>
     have HA2:=Hid.mk (HY1.out h);rw[h] at HS;clear HN1 HY1 h HA;go_wp2_with fail
     refine(HS.out _).mono ?_;rintro e w' ⟨rfl,rfl⟩;go_wp2;go_round
     case rel=>exact⟨k+1,by go_num,by omega,HA2⟩
     case measure=>simp[intOf];omega
    | false =>
     have HF:=Hid.mk (HN1.out h);rw[h] at HS;clear HN1 HY1 h HA;go_wp2_with fail
     refine(HS.out _).mono ?_;rintro e w' ⟨rfl,rfl⟩;go_wp2;go_ret;exact⟨ret_tb HF.out.symm,rfl⟩
   ·have HF:=Hid.mk (HYY.out fun j hj=>HA.out j (by omega))
    clear HA HYY HNo;go_wp2;go_ret;exact⟨ret_tb HF.out.symm,rfl⟩
theorem nameB_end {s:ByteArray} (h:∀ j,j<s.size->nbB ((txt s).getD j 0)=true) (h1:0<s.size->smB ((txt s).getD 0 0)=true):bwB 1 8 s.size=nameB s:=by
 unfold nameB;rw[allB_yes h];by_cases h0:0<s.size
 ·rw[h1 h0];simp
 ·have:s.size=0:=by omega
  rw[this];rfl
theorem nb_sm {c:Int} (h:smB c=true):nbB c=true:=by simp[nbB,h]
theorem nb_dg {c:Int} (h:dgB c=true):nbB c=true:=by simp[nbB,h]
theorem nb_no {c:Int} (h:smB c=false) (h1:dgB c=false):nbB c=false:=by simp[nbB,h,h1]
theorem l7Word_any (s:ByteArray) (w:World) (hs:s.size<=maxLen):Calls Tryz.prog 106 #[.string s] w fun r w'=>r=.returned (.bool (nameB s))/\w'=w:=by
 unfold maxLen at hs;have HFi:=Hid.mk (fun h=>nameB_first (s:=s) h);have HNo:=Hid.mk (fun j hj h=>nameB_no (s:=s) (j:=j) hj h);have HY:=Hid.mk (fun h0 h1=>nameB_end (s:=s) h0 h1);generalize nameB s=R at *;go_enter Tryz.func106,Tryz.ntmps106
 go_wp2;go_loop [3] (fun i=>∃ k:Nat,i=.int .i64 k/\k<=s.size/\Hid ((∀ j,j<k->nbB ((txt s).getD j 0)=true)/\(0<k->smB ((txt s).getD 0 0)=true))) (fun i=>s.size-(intOf i).toNat)
 case atStart=>exact⟨0,rfl,Nat.zero_le _,fun j hj=>by omega,fun h=>by omega⟩
 case round =>
  obtain⟨k,rfl,hk,HA⟩:=hrel;by_cases hlt:k<s.size
  ·have hc:=byte_txt s k hlt
   obtain⟨hr0,hr1⟩:=byte_range s k hlt;have HN1:=Hid.mk (HNo.out k hlt);have HY1:Hid (nbB ((txt s).getD k 0)=true->(k=0->smB ((txt s).getD k 0)=true)->(∀ j,j<k+1->nbB ((txt s).getD j 0)=true)/\(0<k+1->smB ((txt s).getD 0 0)=true)):=fun h h0=>by
    refine⟨fun j hj=>?_,fun _=>?_⟩
    ·by_cases e1:j=k
     ·subst e1;exact h
     ·exact HA.out.1 j (by omega)
    ·by_cases e0:k=0
     ·subst e0;exact h0 rfl
     ·exact HA.out.2 (by omega)
   have HF0:Hid (k=0->smB ((txt s).getD k 0)=false->R=false):=fun h h1=>by subst h;exact HFi.out h1
   generalize (txt s).getD k 0=c at hc hr0 hr1 HN1 HY1 HF0;have HS:=Hid.mk (fun w=>l7Small_any c w hr0 hr1);have HD:=Hid.mk (fun w=>l2Dig_any c w hr0 hr1);have hki:(k:Int)<(s.size:Int):=(by omega);cases h:smB c with
   | true =>
    have HA2:=Hid.mk (HY1.out (nb_sm h) (fun _=>h));rw[h] at HS;clear HN1 HY1 h HA HF0 HD;go_wp2_with fail
    refine(HS.out _).mono ?_;rintro e w' ⟨rfl,rfl⟩;go_wp2;go_round
    case rel=>exact⟨k+1,by go_num,by omega,HA2⟩
    case measure=>simp[intOf];omega
   | false =>
    by_cases hk0:k=0
    ·have HF:=Hid.mk (HF0.out hk0 h)
     have hk1:((k:Int)==0)=true:=(by simp[hk0]);rw[h] at HS;clear HN1 HY1 h HA HD HF0 hk0;go_wp2_with fail
     refine(HS.out _).mono ?_;rintro e w' ⟨rfl,rfl⟩;go_wp2;go_ret;exact⟨ret_tb HF.out.symm,rfl⟩
    ·have hk1:((k:Int)==0)=false:=by simp;omega
     cases hd:dgB c with
     | true =>
      have HA2:=Hid.mk (HY1.out (nb_dg hd) (fun h=>absurd h hk0));rw[h] at HS;rw[hd] at HD;clear HN1 HY1 h hd HA HF0;go_wp2_with fail
      refine(HS.out _).mono ?_;rintro e w' ⟨rfl,rfl⟩;go_wp2_with fail
      refine(HD.out _).mono ?_;rintro e w' ⟨rfl,rfl⟩;go_wp2;go_round
      case rel=>exact⟨k+1,by go_num,by omega,HA2⟩
      case measure=>simp[intOf];omega
     | false =>
      have HF:=Hid.mk (HN1.out (nb_no h hd));rw[h] at HS;rw[hd] at HD;clear HN1 HY1 h hd HA HF0;go_wp2_with fail
      refine(HS.out _).mono ?_;rintro e w' ⟨rfl,rfl⟩;go_wp2_with fail
      refine(HD.out _).mono ?_;rintro e w' ⟨rfl,rfl⟩;go_wp2;go_ret;exact⟨ret_tb HF.out.symm,rfl⟩
  ·have e:k=s.size:=by omega
   subst e;have HF:=Hid.mk (HY.out HA.out.1 HA.out.2);clear HA HY HNo HFi;go_wp2_with (go_at_call 132;refine(l1Bw_any _ _ _ _).mono ?_;rintro e w' ⟨rfl,rfl⟩)
   go_ret;exact⟨ret_tb HF.out,rfl⟩
def prB (e:Int) (s:ByteArray):Bool:=decide ((s.size:Int)<=200)&&allB (pnB e) s
theorem prB_no {e:Int} {s:ByteArray} {j:Nat} (hj:j<s.size) (h:pnB e ((txt s).getD j 0)=false):prB e s=false:=by unfold prB;rw[allB_no hj h];simp
theorem prB_end {e:Int} {s:ByteArray} (h:∀ j,j<s.size->pnB e ((txt s).getD j 0)=true):prB e s=decide ((s.size:Int)<=200):=by unfold prB;rw[allB_yes h];simp
theorem l7Print_any (s:ByteArray) (e:Int) (w:World) (hs:s.size<=maxLen):Calls Tryz.prog 183 #[.string s,.int .u8 e] w fun r w'=>r=.returned (.bool (prB e s))/\w'=w:=by
 unfold maxLen at hs;have HNo:=Hid.mk (fun j hj h=>prB_no (e:=e) (s:=s) (j:=j) hj h);have HY:=Hid.mk (fun h=>prB_end (e:=e) (s:=s) h);generalize prB e s=R at *;go_enter Tryz.func183,Tryz.ntmps183
 go_wp2;go_loop [5] (fun i=>∃ k:Nat,i=.int .i64 k/\k<=s.size/\Hid (∀ j,j<k->pnB e ((txt s).getD j 0)=true)) (fun i=>s.size-(intOf i).toNat)
 case atStart=>exact⟨0,rfl,Nat.zero_le _,fun j hj=>by omega⟩
 case round =>
  obtain⟨k,rfl,hk,HA⟩:=hrel;by_cases hlt:k<s.size
  ·have hc:=byte_txt s k hlt
   obtain⟨hr0,hr1⟩:=byte_range s k hlt;have HN1:=Hid.mk (HNo.out k hlt);have HY1:Hid (pnB e ((txt s).getD k 0)=true->∀ j,j<k+1->pnB e ((txt s).getD j 0)=true):=fun h j hj=>by
    by_cases e1:j=k
    ·subst e1;exact h
    ·exact HA.out j (by omega)
   generalize (txt s).getD k 0=c at hc hr0 hr1 HN1 HY1;have hki:(k:Int)<(s.size:Int):=(by omega);have HI:=Hid.mk (l1Bw_any c 32 126);rcases pn_case e c with⟨h,h0,h1,h2⟩ | ⟨h,h0⟩ | ⟨h,h0,h1⟩ | ⟨h,h0,h1,h2⟩
   ·have HA2:=Hid.mk (HY1.out h)
    have h2':(c==e)=false:=(by simpa using h2);rw[bwB_yes h0 h1] at HI;clear HN1 HY1 h h2 HA;go_wp2_with fail
    refine(HI.out _).mono ?_;rintro e w' ⟨rfl,rfl⟩;go_wp2;go_round
    case rel=>exact⟨k+1,by go_num,by omega,HA2⟩
    case measure=>simp[intOf];omega
   ·have HF:=Hid.mk (HN1.out h)
    rw[bwB_lo h0] at HI;clear HN1 HY1 h HA;go_wp2_with fail
    refine(HI.out _).mono ?_;rintro e w' ⟨rfl,rfl⟩;go_wp2;go_ret;exact⟨ret_tb HF.out.symm,rfl⟩
   ·have HF:=Hid.mk (HN1.out h)
    rw[bwB_hi h1] at HI;clear HN1 HY1 h HA;go_wp2_with fail
    refine(HI.out _).mono ?_;rintro e w' ⟨rfl,rfl⟩;go_wp2;go_ret;exact⟨ret_tb HF.out.symm,rfl⟩
   ·have HF:=Hid.mk (HN1.out h)
    have h2':(c==e)=true:=(by simpa using h2);rw[bwB_yes h0 h1] at HI;clear HN1 HY1 h HA h2;go_wp2_with fail
    refine(HI.out _).mono ?_;rintro e w' ⟨rfl,rfl⟩;go_wp2;go_ret;exact⟨ret_tb HF.out.symm,rfl⟩
  ·have HF:=Hid.mk (HY.out fun j hj=>HA.out j (by omega))
   clear HA HY HNo;by_cases h2:(s.size:Int)<=200
   all_goals
    go_wp2;go_ret;exact⟨ret_tb (by rw[HF.out];simp[h2]),rfl⟩
theorem mk_yes {s:ByteArray} {l:List UInt8} (h:(s.toList==l)=true) (hl:tkMarks.contains l=true):mkB s=true:=by
 unfold mkB;rw[eq_of_beq h];exact hl
theorem isMark_any (s:ByteArray) (w:World):Calls Tryz.prog 229 #[.string s] w fun r w'=>r=.returned (.bool (mkB s))/\w'=w:=by
 cases h0:(s.toList==[123]) with
 | true =>
  have H:=Hid.mk (mk_yes h0 rfl);go_enter Tryz.func229,Tryz.ntmps229
  go_wp2;go_ret;exact⟨ret_tb H.out.symm,rfl⟩
 | false =>
 cases h1:(s.toList==[125]) with
 | true =>
  have H:=Hid.mk (mk_yes h1 rfl);go_enter Tryz.func229,Tryz.ntmps229
  go_wp2;go_ret;exact⟨ret_tb H.out.symm,rfl⟩
 | false =>
 cases h2:(s.toList==[40]) with
 | true =>
  have H:=Hid.mk (mk_yes h2 rfl);go_enter Tryz.func229,Tryz.ntmps229
  go_wp2;go_ret;exact⟨ret_tb H.out.symm,rfl⟩
 | false =>
 cases h3:(s.toList==[41]) with
 | true =>
  have H:=Hid.mk (mk_yes h3 rfl);go_enter Tryz.func229,Tryz.ntmps229
  go_wp2;go_ret;exact⟨ret_tb H.out.symm,rfl⟩
 | false =>
 cases h4:(s.toList==[91]) with
 | true =>
  have H:=Hid.mk (mk_yes h4 rfl);go_enter Tryz.func229,Tryz.ntmps229
  go_wp2;go_ret;exact⟨ret_tb H.out.symm,rfl⟩
 | false =>
 cases h5:(s.toList==[93]) with
 | true =>
  have H:=Hid.mk (mk_yes h5 rfl);go_enter Tryz.func229,Tryz.ntmps229
  go_wp2;go_ret;exact⟨ret_tb H.out.symm,rfl⟩
 | false =>
 cases h6:(s.toList==[44]) with
 | true =>
  have H:=Hid.mk (mk_yes h6 rfl);go_enter Tryz.func229,Tryz.ntmps229
  go_wp2;go_ret;exact⟨ret_tb H.out.symm,rfl⟩
 | false =>
 cases h7:(s.toList==[59]) with
 | true =>
  have H:=Hid.mk (mk_yes h7 rfl);go_enter Tryz.func229,Tryz.ntmps229
  go_wp2;go_ret;exact⟨ret_tb H.out.symm,rfl⟩
 | false =>
 cases h8:(s.toList==[36]) with
 | true =>
  have H:=Hid.mk (mk_yes h8 rfl);go_enter Tryz.func229,Tryz.ntmps229
  go_wp2;go_ret;exact⟨ret_tb H.out.symm,rfl⟩
 | false =>
 cases h9:(s.toList==[43]) with
 | true =>
  have H:=Hid.mk (mk_yes h9 rfl);go_enter Tryz.func229,Tryz.ntmps229
  go_wp2;go_ret;exact⟨ret_tb H.out.symm,rfl⟩
 | false =>
 cases h10:(s.toList==[45]) with
 | true =>
  have H:=Hid.mk (mk_yes h10 rfl);go_enter Tryz.func229,Tryz.ntmps229
  go_wp2;go_ret;exact⟨ret_tb H.out.symm,rfl⟩
 | false =>
 cases h11:(s.toList==[42]) with
 | true =>
  have H:=Hid.mk (mk_yes h11 rfl);go_enter Tryz.func229,Tryz.ntmps229
  go_wp2;go_ret;exact⟨ret_tb H.out.symm,rfl⟩
 | false =>
 cases h12:(s.toList==[47]) with
 | true =>
  have H:=Hid.mk (mk_yes h12 rfl);go_enter Tryz.func229,Tryz.ntmps229
  go_wp2;go_ret;exact⟨ret_tb H.out.symm,rfl⟩
 | false =>
 cases h13:(s.toList==[37]) with
 | true =>
  have H:=Hid.mk (mk_yes h13 rfl);go_enter Tryz.func229,Tryz.ntmps229
  go_wp2;go_ret;exact⟨ret_tb H.out.symm,rfl⟩
 | false =>
 cases h14:(s.toList==[46]) with
 | true =>
  have H:=Hid.mk (mk_yes h14 rfl);go_enter Tryz.func229,Tryz.ntmps229
  go_wp2;go_ret;exact⟨ret_tb H.out.symm,rfl⟩
 | false =>
 cases h15:(s.toList==[60]) with
 | true =>
  have H:=Hid.mk (mk_yes h15 rfl);go_enter Tryz.func229,Tryz.ntmps229
  go_wp2;go_ret;exact⟨ret_tb H.out.symm,rfl⟩
 | false =>
 cases h16:(s.toList==[60,61]) with
 | true =>
  have H:=Hid.mk (mk_yes h16 rfl);go_enter Tryz.func229,Tryz.ntmps229
  go_wp2;go_ret;exact⟨ret_tb H.out.symm,rfl⟩
 | false =>
 cases h17:(s.toList==[61,61]) with
 | true =>
  have H:=Hid.mk (mk_yes h17 rfl);go_enter Tryz.func229,Tryz.ntmps229
  go_wp2;go_ret;exact⟨ret_tb H.out.symm,rfl⟩
 | false =>
 cases h18:(s.toList==[33,61]) with
 | true =>
  have H:=Hid.mk (mk_yes h18 rfl);go_enter Tryz.func229,Tryz.ntmps229
  go_wp2;go_ret;exact⟨ret_tb H.out.symm,rfl⟩
 | false =>
 cases h19:(s.toList==[62]) with
 | true =>
  have H:=Hid.mk (mk_yes h19 rfl);go_enter Tryz.func229,Tryz.ntmps229
  go_wp2;go_ret;exact⟨ret_tb H.out.symm,rfl⟩
 | false =>
 cases h20:(s.toList==[62,61]) with
 | true =>
  have H:=Hid.mk (mk_yes h20 rfl);go_enter Tryz.func229,Tryz.ntmps229
  go_wp2;go_ret;exact⟨ret_tb H.out.symm,rfl⟩
 | false =>
 cases h21:(s.toList==[38,38]) with
 | true =>
  have H:=Hid.mk (mk_yes h21 rfl);go_enter Tryz.func229,Tryz.ntmps229
  go_wp2;go_ret;exact⟨ret_tb H.out.symm,rfl⟩
 | false =>
 cases h22:(s.toList==[124,124]) with
 | true =>
  have H:=Hid.mk (mk_yes h22 rfl);go_enter Tryz.func229,Tryz.ntmps229
  go_wp2;go_ret;exact⟨ret_tb H.out.symm,rfl⟩
 | false =>
 cases h23:(s.toList==[33]) with
 | true =>
  have H:=Hid.mk (mk_yes h23 rfl);go_enter Tryz.func229,Tryz.ntmps229
  go_wp2;go_ret;exact⟨ret_tb H.out.symm,rfl⟩
 | false =>
 cases h24:(s.toList==[126]) with
 | true =>
  have H:=Hid.mk (mk_yes h24 rfl);go_enter Tryz.func229,Tryz.ntmps229
  go_wp2;go_ret;exact⟨ret_tb H.out.symm,rfl⟩
 | false =>
 cases h25:(s.toList==[61]) with
 | true =>
  have H:=Hid.mk (mk_yes h25 rfl);go_enter Tryz.func229,Tryz.ntmps229
  go_wp2;go_ret;exact⟨ret_tb H.out.symm,rfl⟩
 | false =>
 have H:Hid (mkB s=false):=by
  show _=_
  unfold mkB tkMarks;simp only[List.contains,List.elem,h0,h1,h2,h3,h4,h5,h6,h7,h8,h9,h10,h11,h12,h13,h14,h15,h16,h17,h18,h19,h20,h21,h22,h23,h24,h25]
 go_enter Tryz.func229,Tryz.ntmps229
 go_wp2;go_ret;exact⟨ret_tb H.out.symm,rfl⟩
def onesB:ByteArray:=⟨#[123,125,40,41,91,93,44,59,36,43,45,42,47,37,46,60,62,33,126,61]⟩
def oneB (s:ByteArray) (k:Nat):Bool:=s.toList==(onesB.extract k (k+1)).toList
def onesL:List UInt8:=[123,125,40,41,91,93,44,59,36,43,45,42,47,37,46,60,62,33,126,61]
def wrB (k:Int) (s:ByteArray):Bool :=
 if k=2 then nameB s else if k=3 then prB 39 s else if k=4 then !s.toList.isEmpty&&prB 47 s else if k=5 then mkB s else false
def tokB (k n:Int) (s:ByteArray):Bool:=if k=1 then bwB 0 2147483647 n&&s.toList.isEmpty else n==0&&wrB k s
theorem pr_long {e:Int} {s:ByteArray} (h:¬ (s.size:Int)<=200):prB e s=false:=by unfold prB;rw[decide_eq_false h];rfl
theorem pr_short {e:Int} {s:ByteArray} (h:(s.size:Int)<=200):prB e s=allB (pnB e) s:=by unfold prB;rw[decide_eq_true h];rfl
theorem writtenOk_any (k:Int) (s:ByteArray) (w:World) (hs:s.size<=maxLen):Calls Tryz.prog 227 #[.int .i64 k,.string s] w fun r w'=>r=.returned (.bool (wrB k s))/\w'=w:=by
 have HP:=Hid.mk (fun e w=>isPlain_any s e w hs);have HM:=Hid.mk (fun w=>isMark_any s w);have HNm:=Hid.mk (fun w=>isName_any s w hs);unfold maxLen at hs;by_cases h2:k=2
 ·subst h2
  go_enter Tryz.func227,Tryz.ntmps227
  go_wp2_with fail
  refine(HNm.out _).mono ?_;rintro e w' ⟨rfl,rfl⟩;go_wp2;go_ret;exact⟨rfl,rfl⟩
 by_cases h3:k=3
 ·subst h3
  by_cases hl:(s.size:Int)<=200
  ·have H:Hid (wrB 3 s=allB (pnB 39) s):=pr_short hl
   go_enter Tryz.func227,Tryz.ntmps227
   go_wp2_with fail
   refine(HP.out _ _).mono ?_;rintro e w' ⟨rfl,rfl⟩;go_wp2;go_ret;exact⟨ret_tb H.out.symm,rfl⟩
  ·have H:Hid (wrB 3 s=false):=pr_long hl
   go_enter Tryz.func227,Tryz.ntmps227
   go_wp2;go_ret;exact⟨ret_tb H.out.symm,rfl⟩
 by_cases h4:k=4
 ·subst h4
  rcases sEmp s with⟨he,hz⟩ | ⟨he,hz⟩
  ·have H:Hid (wrB 4 s=false):=by show(!s.toList.isEmpty&&prB 47 s)=false;rw[he];rfl
   go_enter Tryz.func227,Tryz.ntmps227
   go_wp2;go_ret;exact⟨ret_tb H.out.symm,rfl⟩
  by_cases hl:(s.size:Int)<=200
  ·have H:Hid (wrB 4 s=allB (pnB 47) s):=by show(!s.toList.isEmpty&&prB 47 s)=_;rw[he,pr_short hl];rfl
   go_enter Tryz.func227,Tryz.ntmps227
   go_wp2_with fail
   refine(HP.out _ _).mono ?_;rintro e w' ⟨rfl,rfl⟩;go_wp2;go_ret;exact⟨ret_tb H.out.symm,rfl⟩
  ·have H:Hid (wrB 4 s=false):=by show(!s.toList.isEmpty&&prB 47 s)=_;rw[pr_long hl];simp
   go_enter Tryz.func227,Tryz.ntmps227
   go_wp2;go_ret;exact⟨ret_tb H.out.symm,rfl⟩
 by_cases h5:k=5
 ·subst h5
  go_enter Tryz.func227,Tryz.ntmps227
  go_wp2_with fail
  refine(HM.out _).mono ?_;rintro e w' ⟨rfl,rfl⟩;go_wp2;go_ret;exact⟨rfl,rfl⟩
 ·have H:Hid (wrB k s=false):=by show _=_;unfold wrB;rw[if_neg h2,if_neg h3,if_neg h4,if_neg h5]
  go_enter Tryz.func227,Tryz.ntmps227
  go_wp2;go_ret;exact⟨ret_tb H.out.symm,rfl⟩
theorem implTokenOk_any (k n:Int) (s:ByteArray) (w:World) (hs:s.size<=maxLen):Calls Tryz.prog 225 #[vl k n s] w fun r w'=>r=.returned (.bool (tokB k n s))/\Below w.heap.size w w':=by
 have A0:Hid (∀ o,Below w.heap.size w (w.alloc o)):=fun o=>(Below.refl _ _).alloc (Nat.le_refl _) _;have HW:=Hid.mk (fun w=>writtenOk_any k s w hs);clear hs;by_cases h1:k=1
 ·subst h1
  by_cases h0:0<=n
  ·by_cases hn:n<=2147483647
   ·have H:Hid (tokB 1 n s=s.toList.isEmpty):=by show(bwB 0 2147483647 n&&s.toList.isEmpty)=_;rw[bwB_yes h0 hn];rfl
    go_enter Tryz.func225,Tryz.ntmps225
    go_wp2;go_ret;exact⟨ret_tb H.out.symm,A0.out _⟩
   ·have H:Hid (tokB 1 n s=false):=by show(bwB 0 2147483647 n&&s.toList.isEmpty)=_;rw[bwB_hi (by omega)];rfl
    go_enter Tryz.func225,Tryz.ntmps225
    go_wp2;go_ret;exact⟨ret_tb H.out.symm,A0.out _⟩
  ·have H:Hid (tokB 1 n s=false):=by show(bwB 0 2147483647 n&&s.toList.isEmpty)=_;rw[bwB_lo (by omega)];rfl
   go_enter Tryz.func225,Tryz.ntmps225
   go_wp2;go_ret;exact⟨ret_tb H.out.symm,A0.out _⟩
 by_cases hn:n=0
 ·subst hn
  have H:Hid (tokB k 0 s=wrB k s):=(by show _=_;unfold tokB;rw[if_neg h1];simp);go_enter Tryz.func225,Tryz.ntmps225
  go_wp2_with fail
  refine(HW.out _).mono ?_;rintro e w' ⟨rfl,rfl⟩;go_wp2;go_ret;exact⟨ret_tb H.out.symm,A0.out _⟩
 ·have H:Hid (tokB k n s=false):=by show _=_;unfold tokB;rw[if_neg h1,beq_false_of_ne hn];rfl
  have hn':(n==0)=false:=beq_false_of_ne hn;clear hn;go_enter Tryz.func225,Tryz.ntmps225
  go_wp2;go_ret;exact⟨ret_tb H.out.symm,A0.out _⟩
end Go.Proofs.YtkbijjkgfojchaaGreat
namespace Go.Proofs.YtkbijjkgfojchaaGreat
open Go.Shelf Go.RowKit
def ren316:Go.Shelf.Ren:=⟨fun | 316=>98 | n=>n,fun | 0=>0 | 3=>3 | 4=>4 | 5=>5 | 9=>9 | 37=>22 | 127=>164 | n=>n,fun | n=>n⟩
theorem lays316:Go.Proofs.LaysM.n316 Tryz.prog ren316:={
 mixed:=by kernel_rfl
 f316:=Tryz.func98.trans (congrArg some (by kernel_rfl))
 t0:=Tryz.underlying0
 a0:=Tryz.isAgg0
 z0:=Tryz.sizeOf0
 v0:=Tryz.zeroValue0
 t3:=Tryz.underlying3
 a3:=Tryz.isAgg3
 z3:=Tryz.sizeOf3
 v3:=Tryz.zeroValue3
 t4:=Tryz.underlying4
 a4:=Tryz.isAgg4
 z4:=Tryz.sizeOf4
 v4:=Tryz.zeroValue4
 t9:=Tryz.underlying9
 a9:=Tryz.isAgg9
 z9:=Tryz.sizeOf9
 v9:=Tryz.zeroValue9
 t37:=Tryz.underlying22
 a37:=Tryz.isAgg22
 z37:=Tryz.sizeOf22
 v37:=Tryz.zeroValue22
 t127:=Tryz.underlying164
 a127:=Tryz.isAgg164
 z127:=Tryz.sizeOf164
 v127:=Tryz.zeroValue164
 t5:=Tryz.underlying5
 a5:=Tryz.isAgg5
 z5:=Tryz.sizeOf5
 v5:=Tryz.zeroValue5
 i0:=by kernel_rfl
 i3:=by kernel_rfl
 i4:=by kernel_rfl
 i5:=by kernel_rfl
 i9:=by kernel_rfl
 i37:=by kernel_rfl
 i127:=by kernel_rfl }
theorem cloneLite_any (s:ByteArray) (w:World) (hs:s.size<=1048576) :
  Calls Tryz.prog 98 #[.string s] w fun e w'=>e=.returned (.string s)/\Below w.heap.size w w':=Any.stringslite_Clone lays316 s w (by omega)
theorem clone_any (s:ByteArray) (w:World) (hs:s.size<=1048576) :
  Calls Tryz.prog 62 #[.string s] w fun e w'=>e=.returned (.string s)/\Below w.heap.size w w':=by
 go_enter Tryz.func62,Tryz.ntmps62
 go_wp2_with fail
 refine(cloneLite_any s w hs).mono ?_;rintro e w1 ⟨rfl,hb⟩;go_wp2;go_ret;exact⟨rfl,hb⟩
end Go.Proofs.YtkbijjkgfojchaaGreat
