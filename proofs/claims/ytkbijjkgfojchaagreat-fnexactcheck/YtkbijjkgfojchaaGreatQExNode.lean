/- Which terms are right,but for their parts,as the program asks it: termOf,exprNodeOk. .. -/
import Derived.Test.YtkbijjkgfojchaaGreatQExHas
namespace Go.Proofs.YtkbijjkgfojchaaGreat
set_option maxHeartbeats 8000000
open Go.RowKit
set_option maxRecDepth 8000
theorem termOf_int (n:Int) (s:ByteArray) (ao:Option Addr) (L cap:Nat) (w:World):Calls Tryz.prog 156 #[xx 1 n s (.slice ao L cap)] w fun e w'=>e=.returned (.iface 220 (xx 1 n s (.slice ao L cap)))/\Below w.heap.size w w':=by
 have A0:Below w.heap.size w ((w.alloc (.cells #[.int .i64 1,.int .i64 n,.string s,.slice ao L cap] 54)).alloc (.cells #[.int .i64 1,.int .i64 n,.string s,.slice ao L cap] 216)):=((Below.refl _ _).alloc (Nat.le_refl _) _).alloc (by simp) _;go_enter Tryz.func156,Tryz.ntmps156
 go_wp2;go_ret;exact⟨rfl,A0⟩
theorem termOf_text (n:Int) (s:ByteArray) (ao:Option Addr) (L cap:Nat) (w:World):Calls Tryz.prog 156 #[xx 2 n s (.slice ao L cap)] w fun e w'=>e=.returned (.iface 221 (xx 2 n s (.slice ao L cap)))/\Below w.heap.size w w':=by
 have A0:Below w.heap.size w ((w.alloc (.cells #[.int .i64 2,.int .i64 n,.string s,.slice ao L cap] 54)).alloc (.cells #[.int .i64 2,.int .i64 n,.string s,.slice ao L cap] 216)):=((Below.refl _ _).alloc (Nat.le_refl _) _).alloc (by simp) _;go_enter Tryz.func156,Tryz.ntmps156
 go_wp2;go_ret;exact⟨rfl,A0⟩
theorem termOf_var (n:Int) (s:ByteArray) (ao:Option Addr) (L cap:Nat) (w:World):Calls Tryz.prog 156 #[xx 3 n s (.slice ao L cap)] w fun e w'=>e=.returned (.iface 224 (xx 3 n s (.slice ao L cap)))/\Below w.heap.size w w':=by
 have A0:Below w.heap.size w ((w.alloc (.cells #[.int .i64 3,.int .i64 n,.string s,.slice ao L cap] 54)).alloc (.cells #[.int .i64 3,.int .i64 n,.string s,.slice ao L cap] 216)):=((Below.refl _ _).alloc (Nat.le_refl _) _).alloc (by simp) _;go_enter Tryz.func156,Tryz.ntmps156
 go_wp2;go_ret;exact⟨rfl,A0⟩
theorem termOf_at (n:Int) (s:ByteArray) (ao:Option Addr) (L cap:Nat) (w:World):Calls Tryz.prog 156 #[xx 4 n s (.slice ao L cap)] w fun e w'=>e=.returned (.iface 225 (xx 4 n s (.slice ao L cap)))/\Below w.heap.size w w':=by
 have A0:Below w.heap.size w ((w.alloc (.cells #[.int .i64 4,.int .i64 n,.string s,.slice ao L cap] 54)).alloc (.cells #[.int .i64 4,.int .i64 n,.string s,.slice ao L cap] 216)):=((Below.refl _ _).alloc (Nat.le_refl _) _).alloc (by simp) _;go_enter Tryz.func156,Tryz.ntmps156
 go_wp2;go_ret;exact⟨rfl,A0⟩
theorem termOf_field (n:Int) (s:ByteArray) (ao:Option Addr) (L cap:Nat) (w:World):Calls Tryz.prog 156 #[xx 5 n s (.slice ao L cap)] w fun e w'=>e=.returned (.iface 228 (xx 5 n s (.slice ao L cap)))/\Below w.heap.size w w':=by
 have A0:Below w.heap.size w ((w.alloc (.cells #[.int .i64 5,.int .i64 n,.string s,.slice ao L cap] 54)).alloc (.cells #[.int .i64 5,.int .i64 n,.string s,.slice ao L cap] 216)):=((Below.refl _ _).alloc (Nat.le_refl _) _).alloc (by simp) _;go_enter Tryz.func156,Tryz.ntmps156
 go_wp2;go_ret;exact⟨rfl,A0⟩
theorem termOf_bin (n:Int) (s:ByteArray) (ao:Option Addr) (L cap:Nat) (w:World):Calls Tryz.prog 156 #[xx 6 n s (.slice ao L cap)] w fun e w'=>e=.returned (.iface 229 (xx 6 n s (.slice ao L cap)))/\Below w.heap.size w w':=by
 have A0:Below w.heap.size w ((w.alloc (.cells #[.int .i64 6,.int .i64 n,.string s,.slice ao L cap] 54)).alloc (.cells #[.int .i64 6,.int .i64 n,.string s,.slice ao L cap] 216)):=((Below.refl _ _).alloc (Nat.le_refl _) _).alloc (by simp) _;go_enter Tryz.func156,Tryz.ntmps156
 go_wp2;go_ret;exact⟨rfl,A0⟩
theorem termOf_not (n:Int) (s:ByteArray) (ao:Option Addr) (L cap:Nat) (w:World):Calls Tryz.prog 156 #[xx 7 n s (.slice ao L cap)] w fun e w'=>e=.returned (.iface 230 (xx 7 n s (.slice ao L cap)))/\Below w.heap.size w w':=by
 have A0:Below w.heap.size w ((w.alloc (.cells #[.int .i64 7,.int .i64 n,.string s,.slice ao L cap] 54)).alloc (.cells #[.int .i64 7,.int .i64 n,.string s,.slice ao L cap] 216)):=((Below.refl _ _).alloc (Nat.le_refl _) _).alloc (by simp) _;go_enter Tryz.func156,Tryz.ntmps156
 go_wp2;go_ret;exact⟨rfl,A0⟩
theorem termOf_neg (n:Int) (s:ByteArray) (ao:Option Addr) (L cap:Nat) (w:World):Calls Tryz.prog 156 #[xx 8 n s (.slice ao L cap)] w fun e w'=>e=.returned (.iface 231 (xx 8 n s (.slice ao L cap)))/\Below w.heap.size w w':=by
 have A0:Below w.heap.size w ((w.alloc (.cells #[.int .i64 8,.int .i64 n,.string s,.slice ao L cap] 54)).alloc (.cells #[.int .i64 8,.int .i64 n,.string s,.slice ao L cap] 216)):=((Below.refl _ _).alloc (Nat.le_refl _) _).alloc (by simp) _;go_enter Tryz.func156,Tryz.ntmps156
 go_wp2;go_ret;exact⟨rfl,A0⟩
theorem termOf_in (n:Int) (s:ByteArray) (ao:Option Addr) (L cap:Nat) (w:World):Calls Tryz.prog 156 #[xx 9 n s (.slice ao L cap)] w fun e w'=>e=.returned (.iface 232 (xx 9 n s (.slice ao L cap)))/\Below w.heap.size w w':=by
 have A0:Below w.heap.size w ((w.alloc (.cells #[.int .i64 9,.int .i64 n,.string s,.slice ao L cap] 54)).alloc (.cells #[.int .i64 9,.int .i64 n,.string s,.slice ao L cap] 216)):=((Below.refl _ _).alloc (Nat.le_refl _) _).alloc (by simp) _;go_enter Tryz.func156,Tryz.ntmps156
 go_wp2;go_ret;exact⟨rfl,A0⟩
theorem termOf_match (n:Int) (s:ByteArray) (ao:Option Addr) (L cap:Nat) (w:World):Calls Tryz.prog 156 #[xx 10 n s (.slice ao L cap)] w fun e w'=>e=.returned (.iface 235 (xx 10 n s (.slice ao L cap)))/\Below w.heap.size w w':=by
 have A0:Below w.heap.size w ((w.alloc (.cells #[.int .i64 10,.int .i64 n,.string s,.slice ao L cap] 54)).alloc (.cells #[.int .i64 10,.int .i64 n,.string s,.slice ao L cap] 216)):=((Below.refl _ _).alloc (Nat.le_refl _) _).alloc (by simp) _;go_enter Tryz.func156,Tryz.ntmps156
 go_wp2;go_ret;exact⟨rfl,A0⟩
theorem termOf_call (n:Int) (s:ByteArray) (ao:Option Addr) (L cap:Nat) (w:World):Calls Tryz.prog 156 #[xx 11 n s (.slice ao L cap)] w fun e w'=>e=.returned (.iface 236 (xx 11 n s (.slice ao L cap)))/\Below w.heap.size w w':=by
 have A0:Below w.heap.size w ((w.alloc (.cells #[.int .i64 11,.int .i64 n,.string s,.slice ao L cap] 54)).alloc (.cells #[.int .i64 11,.int .i64 n,.string s,.slice ao L cap] 216)):=((Below.refl _ _).alloc (Nat.le_refl _) _).alloc (by simp) _;go_enter Tryz.func156,Tryz.ntmps156
 go_wp2;go_ret;exact⟨rfl,A0⟩
theorem termOf_len (n:Int) (s:ByteArray) (ao:Option Addr) (L cap:Nat) (w:World):Calls Tryz.prog 156 #[xx 12 n s (.slice ao L cap)] w fun e w'=>e=.returned (.iface 237 (xx 12 n s (.slice ao L cap)))/\Below w.heap.size w w':=by
 have A0:Below w.heap.size w ((w.alloc (.cells #[.int .i64 12,.int .i64 n,.string s,.slice ao L cap] 54)).alloc (.cells #[.int .i64 12,.int .i64 n,.string s,.slice ao L cap] 216)):=((Below.refl _ _).alloc (Nat.le_refl _) _).alloc (by simp) _;go_enter Tryz.func156,Tryz.ntmps156
 go_wp2;go_ret;exact⟨rfl,A0⟩
theorem termOf_sub (n:Int) (s:ByteArray) (ao:Option Addr) (L cap:Nat) (w:World):Calls Tryz.prog 156 #[xx 13 n s (.slice ao L cap)] w fun e w'=>e=.returned (.iface 238 (xx 13 n s (.slice ao L cap)))/\Below w.heap.size w w':=by
 have A0:Below w.heap.size w ((w.alloc (.cells #[.int .i64 13,.int .i64 n,.string s,.slice ao L cap] 54)).alloc (.cells #[.int .i64 13,.int .i64 n,.string s,.slice ao L cap] 216)):=((Below.refl _ _).alloc (Nat.le_refl _) _).alloc (by simp) _;go_enter Tryz.func156,Tryz.ntmps156
 go_wp2;go_ret;exact⟨rfl,A0⟩
theorem termOf_nr (n:Int) (s:ByteArray) (ao:Option Addr) (L cap:Nat) (w:World):Calls Tryz.prog 156 #[xx 14 n s (.slice ao L cap)] w fun e w'=>e=.returned (.iface 239 (xx 14 n s (.slice ao L cap)))/\Below w.heap.size w w':=by
 have A0:Below w.heap.size w ((w.alloc (.cells #[.int .i64 14,.int .i64 n,.string s,.slice ao L cap] 54)).alloc (.cells #[.int .i64 14,.int .i64 n,.string s,.slice ao L cap] 216)):=((Below.refl _ _).alloc (Nat.le_refl _) _).alloc (by simp) _;go_enter Tryz.func156,Tryz.ntmps156
 go_wp2;go_ret;exact⟨rfl,A0⟩
theorem termOf_nf (n:Int) (s:ByteArray) (ao:Option Addr) (L cap:Nat) (w:World):Calls Tryz.prog 156 #[xx 15 n s (.slice ao L cap)] w fun e w'=>e=.returned (.iface 240 (xx 15 n s (.slice ao L cap)))/\Below w.heap.size w w':=by
 have A0:Below w.heap.size w ((w.alloc (.cells #[.int .i64 15,.int .i64 n,.string s,.slice ao L cap] 54)).alloc (.cells #[.int .i64 15,.int .i64 n,.string s,.slice ao L cap] 216)):=((Below.refl _ _).alloc (Nat.le_refl _) _).alloc (by simp) _;go_enter Tryz.func156,Tryz.ntmps156
 go_wp2;go_ret;exact⟨rfl,A0⟩
theorem termOf_idx (n:Int) (s:ByteArray) (ao:Option Addr) (L cap:Nat) (w:World):Calls Tryz.prog 156 #[xx 16 n s (.slice ao L cap)] w fun e w'=>e=.returned (.iface 241 (xx 16 n s (.slice ao L cap)))/\Below w.heap.size w w':=by
 have A0:Below w.heap.size w ((w.alloc (.cells #[.int .i64 16,.int .i64 n,.string s,.slice ao L cap] 54)).alloc (.cells #[.int .i64 16,.int .i64 n,.string s,.slice ao L cap] 216)):=((Below.refl _ _).alloc (Nat.le_refl _) _).alloc (by simp) _;go_enter Tryz.func156,Tryz.ntmps156
 go_wp2;go_ret;exact⟨rfl,A0⟩
theorem termOf_up (n:Int) (s:ByteArray) (ao:Option Addr) (L cap:Nat) (w:World):Calls Tryz.prog 156 #[xx 17 n s (.slice ao L cap)] w fun e w'=>e=.returned (.iface 242 (xx 17 n s (.slice ao L cap)))/\Below w.heap.size w w':=by
 have A0:Below w.heap.size w ((w.alloc (.cells #[.int .i64 17,.int .i64 n,.string s,.slice ao L cap] 54)).alloc (.cells #[.int .i64 17,.int .i64 n,.string s,.slice ao L cap] 216)):=((Below.refl _ _).alloc (Nat.le_refl _) _).alloc (by simp) _;go_enter Tryz.func156,Tryz.ntmps156
 go_wp2;go_ret;exact⟨rfl,A0⟩
theorem termOf_gsub (n:Int) (s:ByteArray) (ao:Option Addr) (L cap:Nat) (w:World):Calls Tryz.prog 156 #[xx 18 n s (.slice ao L cap)] w fun e w'=>e=.returned (.iface 243 (xx 18 n s (.slice ao L cap)))/\Below w.heap.size w w':=by
 have A0:Below w.heap.size w ((w.alloc (.cells #[.int .i64 18,.int .i64 n,.string s,.slice ao L cap] 54)).alloc (.cells #[.int .i64 18,.int .i64 n,.string s,.slice ao L cap] 216)):=((Below.refl _ _).alloc (Nat.le_refl _) _).alloc (by simp) _;go_enter Tryz.func156,Tryz.ntmps156
 go_wp2;go_ret;exact⟨rfl,A0⟩
theorem termOf_stray (k n:Int) (s:ByteArray) (ao:Option Addr) (L cap:Nat) (w:World) (e1:(k==1)=false) (e2:(k==2)=false) (e3:(k==3)=false) (e4:(k==4)=false) (e5:(k==5)=false) (e6:(k==6)=false) (e7:(k==7)=false) (e8:(k==8)=false) (e9:(k==9)=false) (e10:(k==10)=false) (e11:(k==11)=false) (e12:(k==12)=false) (e13:(k==13)=false) (e14:(k==14)=false) (e15:(k==15)=false) (e16:(k==16)=false) (e17:(k==17)=false) (e18:(k==18)=false):Calls Tryz.prog 156 #[xx k n s (.slice ao L cap)] w fun e w'=>e=.returned (.iface 244 (xx k n s (.slice ao L cap)))/\Below w.heap.size w w':=by
 have A0:Below w.heap.size w ((w.alloc (.cells #[.int .i64 k,.int .i64 n,.string s,.slice ao L cap] 54)).alloc (.cells #[.int .i64 k,.int .i64 n,.string s,.slice ao L cap] 216)):=((Below.refl _ _).alloc (Nat.le_refl _) _).alloc (by simp) _;go_enter Tryz.func156,Tryz.ntmps156
 go_wp2;go_ret;exact⟨rfl,A0⟩
noncomputable def nodeN (k n:Int) (s:ByteArray) (L:Nat):Bool:=(if k=1 then bwB 0 2147483647 n else n==0)&&nodeK k s L
theorem nodeX_eq (t:Ex):nodeX t=nodeN t.k t.n t.s t.l.length:=rfl
theorem len_beq (L c:Nat):((L:Int)==(c:Int))=(L==c):=by
 by_cases h:L=c
 ·subst h;simp
 ·rw[beq_false_of_ne h,beq_false_of_ne (by omega)]
theorem ex_eq1 (n:Int) (s:ByteArray) (L:Nat):(((L:Int)==0)&&tokB 1 n s)=nodeN 1 n s L:=by
 unfold nodeN nodeK;rw[if_pos rfl,if_pos rfl,show((L:Int)==0)=(L==0) from len_beq L 0];unfold tokB;rw[if_pos rfl];generalize (L==0)=a;generalize bwB 0 2147483647 n=b;generalize s.toList.isEmpty=c
 revert a b c
 decide
theorem ex_eq2 (n:Int) (s:ByteArray) (L:Nat):(((L:Int)==0)&&tokB 3 n s)=nodeN 2 n s L:=by
 unfold nodeN nodeK;rw[if_neg (by decide),if_neg (by decide),if_pos rfl,show((L:Int)==0)=(L==0) from len_beq L 0];unfold tokB wrB;rw[if_neg (by decide),if_neg (by decide),if_pos rfl];generalize (L==0)=a;generalize (n==0)=b;generalize prB 39 s=c
 revert a b c
 decide
theorem ex_eq3 (n:Int) (s:ByteArray) (L:Nat):(((((L:Int)==0)&&n==0)&&nmB s))=nodeN 3 n s L:=by
 unfold nodeN nodeK;rw[show((L:Int)==0)=(L==0) from len_beq L 0];simp (decide:=true) only[if_false,if_true];generalize (L==0)=a;generalize (n==0)=b;generalize nmB s=c
 revert a b c
 decide
theorem ex_eq4 (n:Int) (s:ByteArray) (L:Nat):(((((L:Int)==1)&&n==0)&&nmB s))=nodeN 4 n s L:=by
 unfold nodeN nodeK;rw[show((L:Int)==1)=(L==1) from len_beq L 1];simp (decide:=true) only[if_false,if_true];generalize (L==1)=a;generalize (n==0)=b;generalize nmB s=c
 revert a b c
 decide
theorem ex_eq5 (n:Int) (s:ByteArray) (L:Nat):(((((L:Int)==1)&&n==0)&&s.toList.isEmpty))=nodeN 5 n s L:=by
 unfold nodeN nodeK;rw[show((L:Int)==1)=(L==1) from len_beq L 1];simp (decide:=true) only[if_false,if_true];generalize (L==1)=a;generalize (n==0)=b;generalize s.toList.isEmpty=c
 revert a b c
 decide
theorem ex_eq6 (n:Int) (s:ByteArray) (L:Nat):(((((L:Int)==2)&&n==0)&&opB s))=nodeN 6 n s L:=by
 unfold nodeN nodeK;rw[show((L:Int)==2)=(L==2) from len_beq L 2];simp (decide:=true) only[if_false,if_true];generalize (L==2)=a;generalize (n==0)=b;generalize opB s=c
 revert a b c
 decide
theorem ex_eq7 (n:Int) (s:ByteArray) (L:Nat):(((((L:Int)==1)&&n==0)&&s.toList.isEmpty))=nodeN 7 n s L:=by
 unfold nodeN nodeK;rw[show((L:Int)==1)=(L==1) from len_beq L 1];simp (decide:=true) only[if_false,if_true];generalize (L==1)=a;generalize (n==0)=b;generalize s.toList.isEmpty=c
 revert a b c
 decide
theorem ex_eq8 (n:Int) (s:ByteArray) (L:Nat):(((((L:Int)==1)&&n==0)&&s.toList.isEmpty))=nodeN 8 n s L:=by
 unfold nodeN nodeK;rw[show((L:Int)==1)=(L==1) from len_beq L 1];simp (decide:=true) only[if_false,if_true];generalize (L==1)=a;generalize (n==0)=b;generalize s.toList.isEmpty=c
 revert a b c
 decide
theorem ex_eq9 (n:Int) (s:ByteArray) (L:Nat):(((((L:Int)==1)&&n==0)&&nmB s))=nodeN 9 n s L:=by
 unfold nodeN nodeK;rw[show((L:Int)==1)=(L==1) from len_beq L 1];simp (decide:=true) only[if_false,if_true];generalize (L==1)=a;generalize (n==0)=b;generalize nmB s=c
 revert a b c
 decide
theorem ex_eq10 (n:Int) (s:ByteArray) (L:Nat):(((((L:Int)==1)&&n==0)&&rtB s))=nodeN 10 n s L:=by
 unfold nodeN nodeK;rw[show((L:Int)==1)=(L==1) from len_beq L 1];simp (decide:=true) only[if_false,if_true];generalize (L==1)=a;generalize (n==0)=b;generalize rtB s=c
 revert a b c
 decide
theorem ex_eq11 (n:Int) (s:ByteArray) (L:Nat):((decide (L<=4)&&((((L:Int)==(L:Int))&&n==0)&&nmB s)))=nodeN 11 n s L:=by
 unfold nodeN nodeK;simp only[if_neg (show ¬ (11:Int)=1 by decide),beq_self_eq_true,Bool.true_and];simp (decide:=true) only[if_false,if_true];generalize decide (L<=4)=a;generalize (n==0)=b;generalize nmB s=c
 revert a b c
 decide
theorem ex_eq12 (n:Int) (s:ByteArray) (L:Nat):(((((L:Int)==1)&&n==0)&&s.toList.isEmpty))=nodeN 12 n s L:=by
 unfold nodeN nodeK;rw[show((L:Int)==1)=(L==1) from len_beq L 1];simp (decide:=true) only[if_false,if_true];generalize (L==1)=a;generalize (n==0)=b;generalize s.toList.isEmpty=c
 revert a b c
 decide
theorem ex_eq13 (n:Int) (s:ByteArray) (L:Nat):(((((L:Int)==3)&&n==0)&&s.toList.isEmpty))=nodeN 13 n s L:=by
 unfold nodeN nodeK;rw[show((L:Int)==3)=(L==3) from len_beq L 3];simp (decide:=true) only[if_false,if_true];generalize (L==3)=a;generalize (n==0)=b;generalize s.toList.isEmpty=c
 revert a b c
 decide
theorem ex_eq14 (n:Int) (s:ByteArray) (L:Nat):(((((L:Int)==0)&&n==0)&&s.toList.isEmpty))=nodeN 14 n s L:=by
 unfold nodeN nodeK;rw[show((L:Int)==0)=(L==0) from len_beq L 0];simp (decide:=true) only[if_false,if_true];generalize (L==0)=a;generalize (n==0)=b;generalize s.toList.isEmpty=c
 revert a b c
 decide
theorem ex_eq15 (n:Int) (s:ByteArray) (L:Nat):(((((L:Int)==0)&&n==0)&&s.toList.isEmpty))=nodeN 15 n s L:=by
 unfold nodeN nodeK;rw[show((L:Int)==0)=(L==0) from len_beq L 0];simp (decide:=true) only[if_false,if_true];generalize (L==0)=a;generalize (n==0)=b;generalize s.toList.isEmpty=c
 revert a b c
 decide
theorem ex_eq16 (n:Int) (s:ByteArray) (L:Nat):(((((L:Int)==2)&&n==0)&&s.toList.isEmpty))=nodeN 16 n s L:=by
 unfold nodeN nodeK;rw[show((L:Int)==2)=(L==2) from len_beq L 2];simp (decide:=true) only[if_false,if_true];generalize (L==2)=a;generalize (n==0)=b;generalize s.toList.isEmpty=c
 revert a b c
 decide
theorem ex_eq17 (n:Int) (s:ByteArray) (L:Nat):(((((L:Int)==1)&&n==0)&&s.toList.isEmpty))=nodeN 17 n s L:=by
 unfold nodeN nodeK;rw[show((L:Int)==1)=(L==1) from len_beq L 1];simp (decide:=true) only[if_false,if_true];generalize (L==1)=a;generalize (n==0)=b;generalize s.toList.isEmpty=c
 revert a b c
 decide
theorem ex_eq18 (n:Int) (s:ByteArray) (L:Nat):(((((L:Int)==2)&&n==0)&&rtB s))=nodeN 18 n s L:=by
 unfold nodeN nodeK;rw[show((L:Int)==2)=(L==2) from len_beq L 2];simp (decide:=true) only[if_false,if_true];generalize (L==2)=a;generalize (n==0)=b;generalize rtB s=c
 revert a b c
 decide
theorem ex_eqx {k:Int} (n:Int) (s:ByteArray) (L:Nat) (h:k<1\/18<k):nodeN k n s L=false:=by
 unfold nodeN nodeK;rw[if_neg (show ¬ k=1 by omega),if_neg (by omega),if_neg (by omega),if_neg (by omega),if_neg (by omega),if_neg (by omega),if_neg (by omega),if_neg (by omega),if_neg (by omega),if_neg (by omega),if_neg (by omega),if_neg (by omega),if_neg (by omega),Bool.and_false]
theorem exprNodeOk_any (k n:Int) (s:ByteArray) (ao:Option Addr) (L cap:Nat) (w:World) (hm:s.size<=1048576) :
  Calls Tryz.prog 116 #[xx k n s (.slice ao L cap)] w fun e w'=>e=.returned (.bool (nodeN k n s L))/\Below w.heap.size w w':=by
 have hs:s.size<=maxLen:=by unfold maxLen;omega
 by_cases h1:k=1
 ·subst h1
  have hmt:∀ w,(method 615 220 (xx 1 n s (.slice ao L cap)) "loop.example/g00288/impl.right").run Tryz.prog w=.ok (222,xx 1 n s (.slice ao L cap)) w:=fun _=>by kernel_rfl
  have HT:=Hid.mk (fun w=>termOf_int n s ao L cap w);have HR:=Hid.mk (fun w=>intRight 1 n s ao L cap w hs);have HE:=Hid.mk (ex_eq1 n s L);generalize nodeN 1 n s L=nb at *;rw[HE.out] at HR;have A0:Below w.heap.size w (w.alloc (.cells #[.int .i64 1,.int .i64 n,.string s,.slice ao L cap] 54)):=(Below.refl _ _).alloc (Nat.le_refl _) _;clear hs hm HE;go_enter Tryz.func116,Tryz.ntmps116
  go_wp2_with fail
  refine(HT.out _).mono ?_;rintro e w1 ⟨rfl,hb1⟩;have B1:=A0.trans (hb1.mono (by simp));clear A0 hb1 HT;go_wp2_with fail
  refine(HR.out _).mono ?_;rintro e w2 ⟨rfl,hb2⟩;have B2:=B1.trans (hb2.mono B1.size);clear B1 hb2 HR;go_wp2;go_ret;exact⟨rfl,B2⟩
 by_cases h2:k=2
 ·subst h2
  have hmt:∀ w,(method 615 221 (xx 2 n s (.slice ao L cap)) "loop.example/g00288/impl.right").run Tryz.prog w=.ok (230,xx 2 n s (.slice ao L cap)) w:=fun _=>by kernel_rfl
  have HT:=Hid.mk (fun w=>termOf_text n s ao L cap w);have HR:=Hid.mk (fun w=>textRight 2 n s ao L cap w hs);have HE:=Hid.mk (ex_eq2 n s L);generalize nodeN 2 n s L=nb at *;rw[HE.out] at HR;have A0:Below w.heap.size w (w.alloc (.cells #[.int .i64 2,.int .i64 n,.string s,.slice ao L cap] 54)):=(Below.refl _ _).alloc (Nat.le_refl _) _;clear hs hm HE;go_enter Tryz.func116,Tryz.ntmps116
  go_wp2_with fail
  refine(HT.out _).mono ?_;rintro e w1 ⟨rfl,hb1⟩;have B1:=A0.trans (hb1.mono (by simp));clear A0 hb1 HT;go_wp2_with fail
  refine(HR.out _).mono ?_;rintro e w2 ⟨rfl,hb2⟩;have B2:=B1.trans (hb2.mono B1.size);clear B1 hb2 HR;go_wp2;go_ret;exact⟨rfl,B2⟩
 by_cases h3:k=3
 ·subst h3
  have hmt:∀ w,(method 615 224 (xx 3 n s (.slice ao L cap)) "loop.example/g00288/impl.right").run Tryz.prog w=.ok (232,xx 3 n s (.slice ao L cap)) w:=fun _=>by kernel_rfl
  have HT:=Hid.mk (fun w=>termOf_var n s ao L cap w);have HR:=Hid.mk (fun w=>varRight 3 n s ao L cap w hs);have HE:=Hid.mk (ex_eq3 n s L);generalize nodeN 3 n s L=nb at *;rw[HE.out] at HR;have A0:Below w.heap.size w (w.alloc (.cells #[.int .i64 3,.int .i64 n,.string s,.slice ao L cap] 54)):=(Below.refl _ _).alloc (Nat.le_refl _) _;clear hs hm HE;go_enter Tryz.func116,Tryz.ntmps116
  go_wp2_with fail
  refine(HT.out _).mono ?_;rintro e w1 ⟨rfl,hb1⟩;have B1:=A0.trans (hb1.mono (by simp));clear A0 hb1 HT;go_wp2_with fail
  refine(HR.out _).mono ?_;rintro e w2 ⟨rfl,hb2⟩;have B2:=B1.trans (hb2.mono B1.size);clear B1 hb2 HR;go_wp2;go_ret;exact⟨rfl,B2⟩
 by_cases h4:k=4
 ·subst h4
  have hmt:∀ w,(method 615 225 (xx 4 n s (.slice ao L cap)) "loop.example/g00288/impl.right").run Tryz.prog w=.ok (236,xx 4 n s (.slice ao L cap)) w:=fun _=>by kernel_rfl
  have HT:=Hid.mk (fun w=>termOf_at n s ao L cap w);have HR:=Hid.mk (fun w=>atRight 4 n s ao L cap w hs);have HE:=Hid.mk (ex_eq4 n s L);generalize nodeN 4 n s L=nb at *;rw[HE.out] at HR;have A0:Below w.heap.size w (w.alloc (.cells #[.int .i64 4,.int .i64 n,.string s,.slice ao L cap] 54)):=(Below.refl _ _).alloc (Nat.le_refl _) _;clear hs hm HE;go_enter Tryz.func116,Tryz.ntmps116
  go_wp2_with fail
  refine(HT.out _).mono ?_;rintro e w1 ⟨rfl,hb1⟩;have B1:=A0.trans (hb1.mono (by simp));clear A0 hb1 HT;go_wp2_with fail
  refine(HR.out _).mono ?_;rintro e w2 ⟨rfl,hb2⟩;have B2:=B1.trans (hb2.mono B1.size);clear B1 hb2 HR;go_wp2;go_ret;exact⟨rfl,B2⟩
 by_cases h5:k=5
 ·subst h5
  have hmt:∀ w,(method 615 228 (xx 5 n s (.slice ao L cap)) "loop.example/g00288/impl.right").run Tryz.prog w=.ok (238,xx 5 n s (.slice ao L cap)) w:=fun _=>by kernel_rfl
  have HT:=Hid.mk (fun w=>termOf_field n s ao L cap w);have HR:=Hid.mk (fun w=>fieldRight 5 n s ao L cap w);have HE:=Hid.mk (ex_eq5 n s L);generalize nodeN 5 n s L=nb at *;rw[HE.out] at HR;have A0:Below w.heap.size w (w.alloc (.cells #[.int .i64 5,.int .i64 n,.string s,.slice ao L cap] 54)):=(Below.refl _ _).alloc (Nat.le_refl _) _;clear hs hm HE;go_enter Tryz.func116,Tryz.ntmps116
  go_wp2_with fail
  refine(HT.out _).mono ?_;rintro e w1 ⟨rfl,hb1⟩;have B1:=A0.trans (hb1.mono (by simp));clear A0 hb1 HT;go_wp2_with fail
  refine(HR.out _).mono ?_;rintro e w2 ⟨rfl,hb2⟩;have B2:=B1.trans (hb2.mono B1.size);clear B1 hb2 HR;go_wp2;go_ret;exact⟨rfl,B2⟩
 by_cases h6:k=6
 ·subst h6
  have hmt:∀ w,(method 615 229 (xx 6 n s (.slice ao L cap)) "loop.example/g00288/impl.right").run Tryz.prog w=.ok (241,xx 6 n s (.slice ao L cap)) w:=fun _=>by kernel_rfl
  have HT:=Hid.mk (fun w=>termOf_bin n s ao L cap w);have HR:=Hid.mk (fun w=>binRight 6 n s ao L cap w);have HE:=Hid.mk (ex_eq6 n s L);generalize nodeN 6 n s L=nb at *;rw[HE.out] at HR;have A0:Below w.heap.size w (w.alloc (.cells #[.int .i64 6,.int .i64 n,.string s,.slice ao L cap] 54)):=(Below.refl _ _).alloc (Nat.le_refl _) _;clear hs hm HE;go_enter Tryz.func116,Tryz.ntmps116
  go_wp2_with fail
  refine(HT.out _).mono ?_;rintro e w1 ⟨rfl,hb1⟩;have B1:=A0.trans (hb1.mono (by simp));clear A0 hb1 HT;go_wp2_with fail
  refine(HR.out _).mono ?_;rintro e w2 ⟨rfl,hb2⟩;have B2:=B1.trans (hb2.mono B1.size);clear B1 hb2 HR;go_wp2;go_ret;exact⟨rfl,B2⟩
 by_cases h7:k=7
 ·subst h7
  have hmt:∀ w,(method 615 230 (xx 7 n s (.slice ao L cap)) "loop.example/g00288/impl.right").run Tryz.prog w=.ok (244,xx 7 n s (.slice ao L cap)) w:=fun _=>by kernel_rfl
  have HT:=Hid.mk (fun w=>termOf_not n s ao L cap w);have HR:=Hid.mk (fun w=>notRight 7 n s ao L cap w);have HE:=Hid.mk (ex_eq7 n s L);generalize nodeN 7 n s L=nb at *;rw[HE.out] at HR;have A0:Below w.heap.size w (w.alloc (.cells #[.int .i64 7,.int .i64 n,.string s,.slice ao L cap] 54)):=(Below.refl _ _).alloc (Nat.le_refl _) _;clear hs hm HE;go_enter Tryz.func116,Tryz.ntmps116
  go_wp2_with fail
  refine(HT.out _).mono ?_;rintro e w1 ⟨rfl,hb1⟩;have B1:=A0.trans (hb1.mono (by simp));clear A0 hb1 HT;go_wp2_with fail
  refine(HR.out _).mono ?_;rintro e w2 ⟨rfl,hb2⟩;have B2:=B1.trans (hb2.mono B1.size);clear B1 hb2 HR;go_wp2;go_ret;exact⟨rfl,B2⟩
 by_cases h8:k=8
 ·subst h8
  have hmt:∀ w,(method 615 231 (xx 8 n s (.slice ao L cap)) "loop.example/g00288/impl.right").run Tryz.prog w=.ok (246,xx 8 n s (.slice ao L cap)) w:=fun _=>by kernel_rfl
  have HT:=Hid.mk (fun w=>termOf_neg n s ao L cap w);have HR:=Hid.mk (fun w=>negRight 8 n s ao L cap w);have HE:=Hid.mk (ex_eq8 n s L);generalize nodeN 8 n s L=nb at *;rw[HE.out] at HR;have A0:Below w.heap.size w (w.alloc (.cells #[.int .i64 8,.int .i64 n,.string s,.slice ao L cap] 54)):=(Below.refl _ _).alloc (Nat.le_refl _) _;clear hs hm HE;go_enter Tryz.func116,Tryz.ntmps116
  go_wp2_with fail
  refine(HT.out _).mono ?_;rintro e w1 ⟨rfl,hb1⟩;have B1:=A0.trans (hb1.mono (by simp));clear A0 hb1 HT;go_wp2_with fail
  refine(HR.out _).mono ?_;rintro e w2 ⟨rfl,hb2⟩;have B2:=B1.trans (hb2.mono B1.size);clear B1 hb2 HR;go_wp2;go_ret;exact⟨rfl,B2⟩
 by_cases h9:k=9
 ·subst h9
  have hmt:∀ w,(method 615 232 (xx 9 n s (.slice ao L cap)) "loop.example/g00288/impl.right").run Tryz.prog w=.ok (248,xx 9 n s (.slice ao L cap)) w:=fun _=>by kernel_rfl
  have HT:=Hid.mk (fun w=>termOf_in n s ao L cap w);have HR:=Hid.mk (fun w=>inRight 9 n s ao L cap w hs);have HE:=Hid.mk (ex_eq9 n s L);generalize nodeN 9 n s L=nb at *;rw[HE.out] at HR;have A0:Below w.heap.size w (w.alloc (.cells #[.int .i64 9,.int .i64 n,.string s,.slice ao L cap] 54)):=(Below.refl _ _).alloc (Nat.le_refl _) _;clear hs hm HE;go_enter Tryz.func116,Tryz.ntmps116
  go_wp2_with fail
  refine(HT.out _).mono ?_;rintro e w1 ⟨rfl,hb1⟩;have B1:=A0.trans (hb1.mono (by simp));clear A0 hb1 HT;go_wp2_with fail
  refine(HR.out _).mono ?_;rintro e w2 ⟨rfl,hb2⟩;have B2:=B1.trans (hb2.mono B1.size);clear B1 hb2 HR;go_wp2;go_ret;exact⟨rfl,B2⟩
 by_cases h10:k=10
 ·subst h10
  have hmt:∀ w,(method 615 235 (xx 10 n s (.slice ao L cap)) "loop.example/g00288/impl.right").run Tryz.prog w=.ok (250,xx 10 n s (.slice ao L cap)) w:=fun _=>by kernel_rfl
  have HT:=Hid.mk (fun w=>termOf_match n s ao L cap w);have HR:=Hid.mk (fun w=>matchRight 10 n s ao L cap w hm);have HE:=Hid.mk (ex_eq10 n s L);generalize nodeN 10 n s L=nb at *;rw[HE.out] at HR;have A0:Below w.heap.size w (w.alloc (.cells #[.int .i64 10,.int .i64 n,.string s,.slice ao L cap] 54)):=(Below.refl _ _).alloc (Nat.le_refl _) _;clear hs hm HE;go_enter Tryz.func116,Tryz.ntmps116
  go_wp2_with fail
  refine(HT.out _).mono ?_;rintro e w1 ⟨rfl,hb1⟩;have B1:=A0.trans (hb1.mono (by simp));clear A0 hb1 HT;go_wp2_with fail
  refine(HR.out _).mono ?_;rintro e w2 ⟨rfl,hb2⟩;have B2:=B1.trans (hb2.mono B1.size);clear B1 hb2 HR;go_wp2;go_ret;exact⟨rfl,B2⟩
 by_cases h11:k=11
 ·subst h11
  have hmt:∀ w,(method 615 236 (xx 11 n s (.slice ao L cap)) "loop.example/g00288/impl.right").run Tryz.prog w=.ok (282,xx 11 n s (.slice ao L cap)) w:=fun _=>by kernel_rfl
  have HT:=Hid.mk (fun w=>termOf_call n s ao L cap w);have HR:=Hid.mk (fun w=>callRight 11 n s ao L cap w hs);have HE:=Hid.mk (ex_eq11 n s L);generalize nodeN 11 n s L=nb at *;rw[HE.out] at HR;have A0:Below w.heap.size w (w.alloc (.cells #[.int .i64 11,.int .i64 n,.string s,.slice ao L cap] 54)):=(Below.refl _ _).alloc (Nat.le_refl _) _;clear hs hm HE;go_enter Tryz.func116,Tryz.ntmps116
  go_wp2_with fail
  refine(HT.out _).mono ?_;rintro e w1 ⟨rfl,hb1⟩;have B1:=A0.trans (hb1.mono (by simp));clear A0 hb1 HT;go_wp2_with fail
  refine(HR.out _).mono ?_;rintro e w2 ⟨rfl,hb2⟩;have B2:=B1.trans (hb2.mono B1.size);clear B1 hb2 HR;go_wp2;go_ret;exact⟨rfl,B2⟩
 by_cases h12:k=12
 ·subst h12
  have hmt:∀ w,(method 615 237 (xx 12 n s (.slice ao L cap)) "loop.example/g00288/impl.right").run Tryz.prog w=.ok (284,xx 12 n s (.slice ao L cap)) w:=fun _=>by kernel_rfl
  have HT:=Hid.mk (fun w=>termOf_len n s ao L cap w);have HR:=Hid.mk (fun w=>lenRight 12 n s ao L cap w);have HE:=Hid.mk (ex_eq12 n s L);generalize nodeN 12 n s L=nb at *;rw[HE.out] at HR;have A0:Below w.heap.size w (w.alloc (.cells #[.int .i64 12,.int .i64 n,.string s,.slice ao L cap] 54)):=(Below.refl _ _).alloc (Nat.le_refl _) _;clear hs hm HE;go_enter Tryz.func116,Tryz.ntmps116
  go_wp2_with fail
  refine(HT.out _).mono ?_;rintro e w1 ⟨rfl,hb1⟩;have B1:=A0.trans (hb1.mono (by simp));clear A0 hb1 HT;go_wp2_with fail
  refine(HR.out _).mono ?_;rintro e w2 ⟨rfl,hb2⟩;have B2:=B1.trans (hb2.mono B1.size);clear B1 hb2 HR;go_wp2;go_ret;exact⟨rfl,B2⟩
 by_cases h13:k=13
 ·subst h13
  have hmt:∀ w,(method 615 238 (xx 13 n s (.slice ao L cap)) "loop.example/g00288/impl.right").run Tryz.prog w=.ok (286,xx 13 n s (.slice ao L cap)) w:=fun _=>by kernel_rfl
  have HT:=Hid.mk (fun w=>termOf_sub n s ao L cap w);have HR:=Hid.mk (fun w=>subRight 13 n s ao L cap w);have HE:=Hid.mk (ex_eq13 n s L);generalize nodeN 13 n s L=nb at *;rw[HE.out] at HR;have A0:Below w.heap.size w (w.alloc (.cells #[.int .i64 13,.int .i64 n,.string s,.slice ao L cap] 54)):=(Below.refl _ _).alloc (Nat.le_refl _) _;clear hs hm HE;go_enter Tryz.func116,Tryz.ntmps116
  go_wp2_with fail
  refine(HT.out _).mono ?_;rintro e w1 ⟨rfl,hb1⟩;have B1:=A0.trans (hb1.mono (by simp));clear A0 hb1 HT;go_wp2_with fail
  refine(HR.out _).mono ?_;rintro e w2 ⟨rfl,hb2⟩;have B2:=B1.trans (hb2.mono B1.size);clear B1 hb2 HR;go_wp2;go_ret;exact⟨rfl,B2⟩
 by_cases h14:k=14
 ·subst h14
  have hmt:∀ w,(method 615 239 (xx 14 n s (.slice ao L cap)) "loop.example/g00288/impl.right").run Tryz.prog w=.ok (288,xx 14 n s (.slice ao L cap)) w:=fun _=>by kernel_rfl
  have HT:=Hid.mk (fun w=>termOf_nr n s ao L cap w);have HR:=Hid.mk (fun w=>nrRight 14 n s ao L cap w);have HE:=Hid.mk (ex_eq14 n s L);generalize nodeN 14 n s L=nb at *;rw[HE.out] at HR;have A0:Below w.heap.size w (w.alloc (.cells #[.int .i64 14,.int .i64 n,.string s,.slice ao L cap] 54)):=(Below.refl _ _).alloc (Nat.le_refl _) _;clear hs hm HE;go_enter Tryz.func116,Tryz.ntmps116
  go_wp2_with fail
  refine(HT.out _).mono ?_;rintro e w1 ⟨rfl,hb1⟩;have B1:=A0.trans (hb1.mono (by simp));clear A0 hb1 HT;go_wp2_with fail
  refine(HR.out _).mono ?_;rintro e w2 ⟨rfl,hb2⟩;have B2:=B1.trans (hb2.mono B1.size);clear B1 hb2 HR;go_wp2;go_ret;exact⟨rfl,B2⟩
 by_cases h15:k=15
 ·subst h15
  have hmt:∀ w,(method 615 240 (xx 15 n s (.slice ao L cap)) "loop.example/g00288/impl.right").run Tryz.prog w=.ok (290,xx 15 n s (.slice ao L cap)) w:=fun _=>by kernel_rfl
  have HT:=Hid.mk (fun w=>termOf_nf n s ao L cap w);have HR:=Hid.mk (fun w=>nfRight 15 n s ao L cap w);have HE:=Hid.mk (ex_eq15 n s L);generalize nodeN 15 n s L=nb at *;rw[HE.out] at HR;have A0:Below w.heap.size w (w.alloc (.cells #[.int .i64 15,.int .i64 n,.string s,.slice ao L cap] 54)):=(Below.refl _ _).alloc (Nat.le_refl _) _;clear hs hm HE;go_enter Tryz.func116,Tryz.ntmps116
  go_wp2_with fail
  refine(HT.out _).mono ?_;rintro e w1 ⟨rfl,hb1⟩;have B1:=A0.trans (hb1.mono (by simp));clear A0 hb1 HT;go_wp2_with fail
  refine(HR.out _).mono ?_;rintro e w2 ⟨rfl,hb2⟩;have B2:=B1.trans (hb2.mono B1.size);clear B1 hb2 HR;go_wp2;go_ret;exact⟨rfl,B2⟩
 by_cases h16:k=16
 ·subst h16
  have hmt:∀ w,(method 615 241 (xx 16 n s (.slice ao L cap)) "loop.example/g00288/impl.right").run Tryz.prog w=.ok (292,xx 16 n s (.slice ao L cap)) w:=fun _=>by kernel_rfl
  have HT:=Hid.mk (fun w=>termOf_idx n s ao L cap w);have HR:=Hid.mk (fun w=>idxRight 16 n s ao L cap w);have HE:=Hid.mk (ex_eq16 n s L);generalize nodeN 16 n s L=nb at *;rw[HE.out] at HR;have A0:Below w.heap.size w (w.alloc (.cells #[.int .i64 16,.int .i64 n,.string s,.slice ao L cap] 54)):=(Below.refl _ _).alloc (Nat.le_refl _) _;clear hs hm HE;go_enter Tryz.func116,Tryz.ntmps116
  go_wp2_with fail
  refine(HT.out _).mono ?_;rintro e w1 ⟨rfl,hb1⟩;have B1:=A0.trans (hb1.mono (by simp));clear A0 hb1 HT;go_wp2_with fail
  refine(HR.out _).mono ?_;rintro e w2 ⟨rfl,hb2⟩;have B2:=B1.trans (hb2.mono B1.size);clear B1 hb2 HR;go_wp2;go_ret;exact⟨rfl,B2⟩
 by_cases h17:k=17
 ·subst h17
  have hmt:∀ w,(method 615 242 (xx 17 n s (.slice ao L cap)) "loop.example/g00288/impl.right").run Tryz.prog w=.ok (294,xx 17 n s (.slice ao L cap)) w:=fun _=>by kernel_rfl
  have HT:=Hid.mk (fun w=>termOf_up n s ao L cap w);have HR:=Hid.mk (fun w=>upRight 17 n s ao L cap w);have HE:=Hid.mk (ex_eq17 n s L);generalize nodeN 17 n s L=nb at *;rw[HE.out] at HR;have A0:Below w.heap.size w (w.alloc (.cells #[.int .i64 17,.int .i64 n,.string s,.slice ao L cap] 54)):=(Below.refl _ _).alloc (Nat.le_refl _) _;clear hs hm HE;go_enter Tryz.func116,Tryz.ntmps116
  go_wp2_with fail
  refine(HT.out _).mono ?_;rintro e w1 ⟨rfl,hb1⟩;have B1:=A0.trans (hb1.mono (by simp));clear A0 hb1 HT;go_wp2_with fail
  refine(HR.out _).mono ?_;rintro e w2 ⟨rfl,hb2⟩;have B2:=B1.trans (hb2.mono B1.size);clear B1 hb2 HR;go_wp2;go_ret;exact⟨rfl,B2⟩
 by_cases h18:k=18
 ·subst h18
  have hmt:∀ w,(method 615 243 (xx 18 n s (.slice ao L cap)) "loop.example/g00288/impl.right").run Tryz.prog w=.ok (296,xx 18 n s (.slice ao L cap)) w:=fun _=>by kernel_rfl
  have HT:=Hid.mk (fun w=>termOf_gsub n s ao L cap w);have HR:=Hid.mk (fun w=>gsubRight 18 n s ao L cap w hm);have HE:=Hid.mk (ex_eq18 n s L);generalize nodeN 18 n s L=nb at *;rw[HE.out] at HR;have A0:Below w.heap.size w (w.alloc (.cells #[.int .i64 18,.int .i64 n,.string s,.slice ao L cap] 54)):=(Below.refl _ _).alloc (Nat.le_refl _) _;clear hs hm HE;go_enter Tryz.func116,Tryz.ntmps116
  go_wp2_with fail
  refine(HT.out _).mono ?_;rintro e w1 ⟨rfl,hb1⟩;have B1:=A0.trans (hb1.mono (by simp));clear A0 hb1 HT;go_wp2_with fail
  refine(HR.out _).mono ?_;rintro e w2 ⟨rfl,hb2⟩;have B2:=B1.trans (hb2.mono B1.size);clear B1 hb2 HR;go_wp2;go_ret;exact⟨rfl,B2⟩
 have HN:=Hid.mk (ex_eqx (k:=k) n s L (by omega));have e1:(k==1)=false:=beq_false_of_ne h1;have e2:(k==2)=false:=beq_false_of_ne h2;have e3:(k==3)=false:=beq_false_of_ne h3;have e4:(k==4)=false:=beq_false_of_ne h4;have e5:(k==5)=false:=beq_false_of_ne h5;have e6:(k==6)=false:=beq_false_of_ne h6;have e7:(k==7)=false:=beq_false_of_ne h7;have e8:(k==8)=false:=beq_false_of_ne h8;have e9:(k==9)=false:=beq_false_of_ne h9;have e10:(k==10)=false:=beq_false_of_ne h10;have e11:(k==11)=false:=beq_false_of_ne h11;have e12:(k==12)=false:=beq_false_of_ne h12;have e13:(k==13)=false:=beq_false_of_ne h13;have e14:(k==14)=false:=beq_false_of_ne h14;have e15:(k==15)=false:=beq_false_of_ne h15;have e16:(k==16)=false:=beq_false_of_ne h16;have e17:(k==17)=false:=beq_false_of_ne h17;have e18:(k==18)=false:=beq_false_of_ne h18;have hmt:∀ w,(method 615 244 (xx k n s (.slice ao L cap)) "loop.example/g00288/impl.right").run Tryz.prog w=.ok (298,xx k n s (.slice ao L cap)) w:=fun _=>by kernel_rfl
 have HT:=Hid.mk (fun w=>termOf_stray k n s ao L cap w e1 e2 e3 e4 e5 e6 e7 e8 e9 e10 e11 e12 e13 e14 e15 e16 e17 e18);have HR:=Hid.mk (fun w=>strayRight k n s ao L cap w);have A0:Below w.heap.size w (w.alloc (.cells #[.int .i64 k,.int .i64 n,.string s,.slice ao L cap] 54)):=(Below.refl _ _).alloc (Nat.le_refl _) _;clear hs hm h1 h2 h3 h4 h5 h6 h7 h8 h9 h10 h11 h12 h13 h14 h15 h16 h17 h18 e1 e2 e3 e4 e5 e6 e7 e8 e9 e10 e11 e12 e13 e14 e15 e16 e17 e18;go_enter Tryz.func116,Tryz.ntmps116
 go_wp2_with fail
 refine(HT.out _).mono ?_;rintro e w1 ⟨rfl,hb1⟩;have B1:=A0.trans (hb1.mono (by simp));clear A0 hb1 HT;go_wp2_with fail
 refine(HR.out _).mono ?_;rintro e w2 ⟨rfl,hb2⟩;have B2:=B1.trans (hb2.mono B1.size);clear B1 hb2 HR;go_wp2;go_ret;exact⟨ret_tb HN.out.symm,B2⟩
end Go.Proofs.YtkbijjkgfojchaaGreat
