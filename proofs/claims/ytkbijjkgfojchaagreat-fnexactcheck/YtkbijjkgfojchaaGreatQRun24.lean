/- Which terms are right,but for their parts: the model's l8Here. .. -/
import Derived.Test.YtkbijjkgfojchaaGreatQExNode
import Derived.Test.YtkbijjkgfojchaaGreatQRexParS
namespace Go.Proofs.YtkbijjkgfojchaaGreat
set_option maxHeartbeats 1000000
open Go.RowKit
set_option maxRecDepth 8000
theorem l8Rex_any (s:ByteArray) (w:World) (hs:s.size<=1048576):Calls Tryz.prog 184 #[.string s] w fun e w'=>e=.returned (.bool (rtB s))/\Below w.heap.size w w':=by
 by_cases h:∃ t,IsTx s t
 ·obtain⟨t,ht⟩:=h
  have HP:=Hid.mk (fun w=>specParse_yes s t w ht);have HR:Hid (rtB s=decide (s.size<=200)):=by
   show _=_
   by_cases h2:s.size<=200
   ·rw[rt_yes h2 ht,decide_eq_true h2]
   ·rw[rt_long (by omega),decide_eq_false h2]
  clear ht;obtain⟨k,hk⟩:∃ k,t.k=k:=⟨_,rfl⟩;obtain⟨ts,hts⟩:∃ ts,t.s=ts:=⟨_,rfl⟩;rw[hk,hts] at HP;rw[HR.out];clear hk hts HR;have hd:decide ((s.size:Int)<=200)=decide (s.size<=200):=decide_eq_decide.2 (by omega);rw[<- hd];clear hd;go_enter Tryz.func184,Tryz.ntmps184
  go_wp2_with fail
  refine(HP.out _).mono ?_;rintro e w1 ⟨u,rfl,ho,-,hb1⟩;obtain⟨au,cu,rfl⟩:=ho.value;have HB:=Hid.mk (fun o=>hb1.alloc hb1.size o);clear HP hb1 ho;go_wp2;go_ret;exact⟨rfl,HB.out _⟩
 ·have hno:∀ t,¬ IsTx s t:=fun t ht=>h ⟨t,ht⟩
  have H:=Hid.mk (rt_no hno);have HP:=Hid.mk (fun w=>specParse_no s w hs hno);clear h hno;go_enter Tryz.func184,Tryz.ntmps184
  go_wp2_with fail
  refine(HP.out _).mono ?_;rintro e w1 ⟨rfl,hb1⟩;have HB:=Hid.mk (fun o=>hb1.alloc hb1.size o);clear HP hb1;go_wp2;go_ret;exact⟨ret_tb H.out.symm,HB.out _⟩
theorem nodeN_n {k n:Int} {s:ByteArray} {L:Nat} (hk:k≠1) (hn:n≠0):nodeN k n s L=false:=by
 unfold nodeN;rw[if_neg hk,beq_false_of_ne hn];rfl
theorem nodeN_2 (s:ByteArray) (L:Nat):nodeN 2 0 s L=(prB 39 s&&((L:Int)==0)):=by
 unfold nodeN nodeK;rw[show((L:Int)==0)=(L==0) from len_beq L 0];simp (decide:=true) only[if_false,if_true,beq_self_eq_true,Bool.true_and]
theorem nodeN_3 (s:ByteArray) (L:Nat):nodeN 3 0 s L=(nmB s&&((L:Int)==0)):=by
 unfold nodeN nodeK;rw[show((L:Int)==0)=(L==0) from len_beq L 0];simp (decide:=true) only[if_false,if_true,beq_self_eq_true,Bool.true_and]
theorem nodeN_4 (s:ByteArray) (L:Nat):nodeN 4 0 s L=(nmB s&&((L:Int)==1)):=by
 unfold nodeN nodeK;rw[show((L:Int)==1)=(L==1) from len_beq L 1];simp (decide:=true) only[if_false,if_true,beq_self_eq_true,Bool.true_and]
theorem nodeN_5 (s:ByteArray) (L:Nat):nodeN 5 0 s L=(s.toList.isEmpty&&((L:Int)==1)):=by
 unfold nodeN nodeK;rw[show((L:Int)==1)=(L==1) from len_beq L 1];simp (decide:=true) only[if_false,if_true,beq_self_eq_true,Bool.true_and]
theorem nodeN_6 (s:ByteArray) (L:Nat):nodeN 6 0 s L=(opB s&&((L:Int)==2)):=by
 unfold nodeN nodeK;rw[show((L:Int)==2)=(L==2) from len_beq L 2];simp (decide:=true) only[if_false,if_true,beq_self_eq_true,Bool.true_and]
theorem nodeN_7 (s:ByteArray) (L:Nat):nodeN 7 0 s L=(s.toList.isEmpty&&((L:Int)==1)):=by
 unfold nodeN nodeK;rw[show((L:Int)==1)=(L==1) from len_beq L 1];simp (decide:=true) only[if_false,if_true,beq_self_eq_true,Bool.true_and]
theorem nodeN_8 (s:ByteArray) (L:Nat):nodeN 8 0 s L=(s.toList.isEmpty&&((L:Int)==1)):=by
 unfold nodeN nodeK;rw[show((L:Int)==1)=(L==1) from len_beq L 1];simp (decide:=true) only[if_false,if_true,beq_self_eq_true,Bool.true_and]
theorem nodeN_9 (s:ByteArray) (L:Nat):nodeN 9 0 s L=(nmB s&&((L:Int)==1)):=by
 unfold nodeN nodeK;rw[show((L:Int)==1)=(L==1) from len_beq L 1];simp (decide:=true) only[if_false,if_true,beq_self_eq_true,Bool.true_and]
theorem nodeN_10 (s:ByteArray) (L:Nat):nodeN 10 0 s L=(rtB s&&((L:Int)==1)):=by
 unfold nodeN nodeK;rw[show((L:Int)==1)=(L==1) from len_beq L 1];simp (decide:=true) only[if_false,if_true,beq_self_eq_true,Bool.true_and]
theorem nodeN_11 (s:ByteArray) (L:Nat):nodeN 11 0 s L=(nmB s&&decide (L<=4)):=by
 unfold nodeN nodeK;simp (decide:=true) only[if_false,if_true,beq_self_eq_true,Bool.true_and]
theorem nodeN_12 (s:ByteArray) (L:Nat):nodeN 12 0 s L=(s.toList.isEmpty&&((L:Int)==1)):=by
 unfold nodeN nodeK;rw[show((L:Int)==1)=(L==1) from len_beq L 1];simp (decide:=true) only[if_false,if_true,beq_self_eq_true,Bool.true_and]
theorem nodeN_13 (s:ByteArray) (L:Nat):nodeN 13 0 s L=(s.toList.isEmpty&&((L:Int)==3)):=by
 unfold nodeN nodeK;rw[show((L:Int)==3)=(L==3) from len_beq L 3];simp (decide:=true) only[if_false,if_true,beq_self_eq_true,Bool.true_and]
theorem nodeN_14 (s:ByteArray) (L:Nat):nodeN 14 0 s L=(s.toList.isEmpty&&((L:Int)==0)):=by
 unfold nodeN nodeK;rw[show((L:Int)==0)=(L==0) from len_beq L 0];simp (decide:=true) only[if_false,if_true,beq_self_eq_true,Bool.true_and]
theorem nodeN_15 (s:ByteArray) (L:Nat):nodeN 15 0 s L=(s.toList.isEmpty&&((L:Int)==0)):=by
 unfold nodeN nodeK;rw[show((L:Int)==0)=(L==0) from len_beq L 0];simp (decide:=true) only[if_false,if_true,beq_self_eq_true,Bool.true_and]
theorem nodeN_16 (s:ByteArray) (L:Nat):nodeN 16 0 s L=(s.toList.isEmpty&&((L:Int)==2)):=by
 unfold nodeN nodeK;rw[show((L:Int)==2)=(L==2) from len_beq L 2];simp (decide:=true) only[if_false,if_true,beq_self_eq_true,Bool.true_and]
theorem nodeN_17 (s:ByteArray) (L:Nat):nodeN 17 0 s L=(s.toList.isEmpty&&((L:Int)==1)):=by
 unfold nodeN nodeK;rw[show((L:Int)==1)=(L==1) from len_beq L 1];simp (decide:=true) only[if_false,if_true,beq_self_eq_true,Bool.true_and]
theorem nodeN_18 (s:ByteArray) (L:Nat):nodeN 18 0 s L=(rtB s&&((L:Int)==2)):=by
 unfold nodeN nodeK;rw[show((L:Int)==2)=(L==2) from len_beq L 2];simp (decide:=true) only[if_false,if_true,beq_self_eq_true,Bool.true_and]
theorem here_2 (s:ByteArray) (ao:Option Addr) (L cap:Nat) (w:World) (hs:s.size<=maxLen):Calls Tryz.prog 172 #[xx 2 0 s (.slice ao L cap)] w fun e w'=>e=.returned (.bool (nodeN 2 0 s L))/\Below w.heap.size w w':=by
 have A0:Below w.heap.size w (w.alloc (.cells #[.int .i64 2,.int .i64 0,.string s,.slice ao L cap] 54)):=(Below.refl _ _).alloc (Nat.le_refl _) _;have HC:=Hid.mk (fun w=>l7Print_any s 39 w hs);rw[nodeN_2];generalize prB 39 s=b at *;clear hs;cases b with
 | false =>
  go_enter Tryz.func172,Tryz.ntmps172
  go_wp2_with fail
  refine(HC.out _).mono ?_;rintro e w1 ⟨rfl,hw1⟩;subst hw1;have B1:=A0;clear A0 HC;go_wp2;go_ret;exact⟨rfl,B1⟩
 | true =>
  go_enter Tryz.func172,Tryz.ntmps172
  go_wp2_with fail
  refine(HC.out _).mono ?_;rintro e w1 ⟨rfl,hw1⟩;subst hw1;have B1:=A0;clear A0 HC;go_wp2;go_ret;exact⟨ret_tb (by simp),B1⟩
theorem here_3 (s:ByteArray) (ao:Option Addr) (L cap:Nat) (w:World) (hs:s.size<=maxLen):Calls Tryz.prog 172 #[xx 3 0 s (.slice ao L cap)] w fun e w'=>e=.returned (.bool (nodeN 3 0 s L))/\Below w.heap.size w w':=by
 have A0:Below w.heap.size w (w.alloc (.cells #[.int .i64 3,.int .i64 0,.string s,.slice ao L cap] 54)):=(Below.refl _ _).alloc (Nat.le_refl _) _;have HC:=Hid.mk (fun w=>specNameOk_any s w hs);rw[nodeN_3];generalize nmB s=b at *;clear hs;cases b with
 | false =>
  go_enter Tryz.func172,Tryz.ntmps172
  go_wp2_with fail
  refine(HC.out _).mono ?_;rintro e w1 ⟨rfl,hb1⟩;have B1:=A0.trans (hb1.mono (by simp));have hc1:=fun o=>hb1.cell (p:=⟨w.heap.size,o,none⟩) (by simp);clear A0 hb1 HC;go_wp2;go_ret;exact⟨rfl,B1⟩
 | true =>
  go_enter Tryz.func172,Tryz.ntmps172
  go_wp2_with fail
  refine(HC.out _).mono ?_;rintro e w1 ⟨rfl,hb1⟩;have B1:=A0.trans (hb1.mono (by simp));have hc1:=fun o=>hb1.cell (p:=⟨w.heap.size,o,none⟩) (by simp);clear A0 hb1 HC;go_wp2;go_ret;exact⟨ret_tb (by simp),B1⟩
theorem here_4 (s:ByteArray) (ao:Option Addr) (L cap:Nat) (w:World) (hs:s.size<=maxLen):Calls Tryz.prog 172 #[xx 4 0 s (.slice ao L cap)] w fun e w'=>e=.returned (.bool (nodeN 4 0 s L))/\Below w.heap.size w w':=by
 have A0:Below w.heap.size w (w.alloc (.cells #[.int .i64 4,.int .i64 0,.string s,.slice ao L cap] 54)):=(Below.refl _ _).alloc (Nat.le_refl _) _;have HC:=Hid.mk (fun w=>specNameOk_any s w hs);rw[nodeN_4];generalize nmB s=b at *;clear hs;cases b with
 | false =>
  go_enter Tryz.func172,Tryz.ntmps172
  go_wp2_with fail
  refine(HC.out _).mono ?_;rintro e w1 ⟨rfl,hb1⟩;have B1:=A0.trans (hb1.mono (by simp));have hc1:=fun o=>hb1.cell (p:=⟨w.heap.size,o,none⟩) (by simp);clear A0 hb1 HC;go_wp2;go_ret;exact⟨rfl,B1⟩
 | true =>
  go_enter Tryz.func172,Tryz.ntmps172
  go_wp2_with fail
  refine(HC.out _).mono ?_;rintro e w1 ⟨rfl,hb1⟩;have B1:=A0.trans (hb1.mono (by simp));have hc1:=fun o=>hb1.cell (p:=⟨w.heap.size,o,none⟩) (by simp);clear A0 hb1 HC;go_wp2;go_ret;exact⟨ret_tb (by simp),B1⟩
theorem here_5 (s:ByteArray) (ao:Option Addr) (L cap:Nat) (w:World):Calls Tryz.prog 172 #[xx 5 0 s (.slice ao L cap)] w fun e w'=>e=.returned (.bool (nodeN 5 0 s L))/\Below w.heap.size w w':=by
 have A0:Below w.heap.size w (w.alloc (.cells #[.int .i64 5,.int .i64 0,.string s,.slice ao L cap] 54)):=(Below.refl _ _).alloc (Nat.le_refl _) _;rw[nodeN_5];cases h:s.toList.isEmpty with
 | false =>
  go_enter Tryz.func172,Tryz.ntmps172
  go_wp2;go_ret;exact⟨rfl,A0⟩
 | true =>
  go_enter Tryz.func172,Tryz.ntmps172
  go_wp2;go_ret;exact⟨ret_tb (by simp),A0⟩
theorem here_7 (s:ByteArray) (ao:Option Addr) (L cap:Nat) (w:World):Calls Tryz.prog 172 #[xx 7 0 s (.slice ao L cap)] w fun e w'=>e=.returned (.bool (nodeN 7 0 s L))/\Below w.heap.size w w':=by
 have A0:Below w.heap.size w (w.alloc (.cells #[.int .i64 7,.int .i64 0,.string s,.slice ao L cap] 54)):=(Below.refl _ _).alloc (Nat.le_refl _) _;rw[nodeN_7];cases h:s.toList.isEmpty with
 | false =>
  go_enter Tryz.func172,Tryz.ntmps172
  go_wp2;go_ret;exact⟨rfl,A0⟩
 | true =>
  go_enter Tryz.func172,Tryz.ntmps172
  go_wp2;go_ret;exact⟨ret_tb (by simp),A0⟩
theorem here_8 (s:ByteArray) (ao:Option Addr) (L cap:Nat) (w:World):Calls Tryz.prog 172 #[xx 8 0 s (.slice ao L cap)] w fun e w'=>e=.returned (.bool (nodeN 8 0 s L))/\Below w.heap.size w w':=by
 have A0:Below w.heap.size w (w.alloc (.cells #[.int .i64 8,.int .i64 0,.string s,.slice ao L cap] 54)):=(Below.refl _ _).alloc (Nat.le_refl _) _;rw[nodeN_8];cases h:s.toList.isEmpty with
 | false =>
  go_enter Tryz.func172,Tryz.ntmps172
  go_wp2;go_ret;exact⟨rfl,A0⟩
 | true =>
  go_enter Tryz.func172,Tryz.ntmps172
  go_wp2;go_ret;exact⟨ret_tb (by simp),A0⟩
theorem here_9 (s:ByteArray) (ao:Option Addr) (L cap:Nat) (w:World) (hs:s.size<=maxLen):Calls Tryz.prog 172 #[xx 9 0 s (.slice ao L cap)] w fun e w'=>e=.returned (.bool (nodeN 9 0 s L))/\Below w.heap.size w w':=by
 have A0:Below w.heap.size w (w.alloc (.cells #[.int .i64 9,.int .i64 0,.string s,.slice ao L cap] 54)):=(Below.refl _ _).alloc (Nat.le_refl _) _;have HC:=Hid.mk (fun w=>specNameOk_any s w hs);rw[nodeN_9];generalize nmB s=b at *;clear hs;cases b with
 | false =>
  go_enter Tryz.func172,Tryz.ntmps172
  go_wp2_with fail
  refine(HC.out _).mono ?_;rintro e w1 ⟨rfl,hb1⟩;have B1:=A0.trans (hb1.mono (by simp));have hc1:=fun o=>hb1.cell (p:=⟨w.heap.size,o,none⟩) (by simp);clear A0 hb1 HC;go_wp2;go_ret;exact⟨rfl,B1⟩
 | true =>
  go_enter Tryz.func172,Tryz.ntmps172
  go_wp2_with fail
  refine(HC.out _).mono ?_;rintro e w1 ⟨rfl,hb1⟩;have B1:=A0.trans (hb1.mono (by simp));have hc1:=fun o=>hb1.cell (p:=⟨w.heap.size,o,none⟩) (by simp);clear A0 hb1 HC;go_wp2;go_ret;exact⟨ret_tb (by simp),B1⟩
theorem here_10 (s:ByteArray) (ao:Option Addr) (L cap:Nat) (w:World) (hs:s.size<=1048576):Calls Tryz.prog 172 #[xx 10 0 s (.slice ao L cap)] w fun e w'=>e=.returned (.bool (nodeN 10 0 s L))/\Below w.heap.size w w':=by
 have A0:Below w.heap.size w (w.alloc (.cells #[.int .i64 10,.int .i64 0,.string s,.slice ao L cap] 54)):=(Below.refl _ _).alloc (Nat.le_refl _) _;have HC:=Hid.mk (fun w=>l8Rex_any s w hs);rw[nodeN_10];generalize rtB s=b at *;clear hs;cases b with
 | false =>
  go_enter Tryz.func172,Tryz.ntmps172
  go_wp2_with fail
  refine(HC.out _).mono ?_;rintro e w1 ⟨rfl,hb1⟩;have B1:=A0.trans (hb1.mono (by simp));have hc1:=fun o=>hb1.cell (p:=⟨w.heap.size,o,none⟩) (by simp);clear A0 hb1 HC;go_wp2;go_ret;exact⟨rfl,B1⟩
 | true =>
  go_enter Tryz.func172,Tryz.ntmps172
  go_wp2_with fail
  refine(HC.out _).mono ?_;rintro e w1 ⟨rfl,hb1⟩;have B1:=A0.trans (hb1.mono (by simp));have hc1:=fun o=>hb1.cell (p:=⟨w.heap.size,o,none⟩) (by simp);clear A0 hb1 HC;go_wp2;go_ret;exact⟨ret_tb (by simp),B1⟩
theorem here_11 (s:ByteArray) (ao:Option Addr) (L cap:Nat) (w:World) (hs:s.size<=maxLen):Calls Tryz.prog 172 #[xx 11 0 s (.slice ao L cap)] w fun e w'=>e=.returned (.bool (nodeN 11 0 s L))/\Below w.heap.size w w':=by
 have A0:Below w.heap.size w (w.alloc (.cells #[.int .i64 11,.int .i64 0,.string s,.slice ao L cap] 54)):=(Below.refl _ _).alloc (Nat.le_refl _) _;have HC:=Hid.mk (fun w=>specNameOk_any s w hs);rw[nodeN_11];generalize nmB s=b at *;clear hs;cases b with
 | false =>
  go_enter Tryz.func172,Tryz.ntmps172
  go_wp2_with fail
  refine(HC.out _).mono ?_;rintro e w1 ⟨rfl,hb1⟩;have B1:=A0.trans (hb1.mono (by simp));have hc1:=fun o=>hb1.cell (p:=⟨w.heap.size,o,none⟩) (by simp);clear A0 hb1 HC;go_wp2;go_ret;exact⟨rfl,B1⟩
 | true =>
  by_cases h4:L<=4
  ·have hi:(L:Int)<=4:=by omega
   rw[decide_eq_true h4];clear h4;go_enter Tryz.func172,Tryz.ntmps172
   go_wp2_with fail
   refine(HC.out _).mono ?_;rintro e w1 ⟨rfl,hb1⟩;have B1:=A0.trans (hb1.mono (by simp));have hc1:=fun o=>hb1.cell (p:=⟨w.heap.size,o,none⟩) (by simp);clear A0 hb1 HC;go_wp2;go_ret;exact⟨rfl,B1⟩
  ·have hi:¬ (L:Int)<=4:=by omega
   rw[decide_eq_false h4];clear h4;go_enter Tryz.func172,Tryz.ntmps172
   go_wp2_with fail
   refine(HC.out _).mono ?_;rintro e w1 ⟨rfl,hb1⟩;have B1:=A0.trans (hb1.mono (by simp));have hc1:=fun o=>hb1.cell (p:=⟨w.heap.size,o,none⟩) (by simp);clear A0 hb1 HC;go_wp2;go_ret;exact⟨ret_tb (by simp;omega),B1⟩
theorem here_12 (s:ByteArray) (ao:Option Addr) (L cap:Nat) (w:World):Calls Tryz.prog 172 #[xx 12 0 s (.slice ao L cap)] w fun e w'=>e=.returned (.bool (nodeN 12 0 s L))/\Below w.heap.size w w':=by
 have A0:Below w.heap.size w (w.alloc (.cells #[.int .i64 12,.int .i64 0,.string s,.slice ao L cap] 54)):=(Below.refl _ _).alloc (Nat.le_refl _) _;rw[nodeN_12];cases h:s.toList.isEmpty with
 | false =>
  go_enter Tryz.func172,Tryz.ntmps172
  go_wp2;go_ret;exact⟨rfl,A0⟩
 | true =>
  go_enter Tryz.func172,Tryz.ntmps172
  go_wp2;go_ret;exact⟨ret_tb (by simp),A0⟩
theorem here_13 (s:ByteArray) (ao:Option Addr) (L cap:Nat) (w:World):Calls Tryz.prog 172 #[xx 13 0 s (.slice ao L cap)] w fun e w'=>e=.returned (.bool (nodeN 13 0 s L))/\Below w.heap.size w w':=by
 have A0:Below w.heap.size w (w.alloc (.cells #[.int .i64 13,.int .i64 0,.string s,.slice ao L cap] 54)):=(Below.refl _ _).alloc (Nat.le_refl _) _;rw[nodeN_13];cases h:s.toList.isEmpty with
 | false =>
  go_enter Tryz.func172,Tryz.ntmps172
  go_wp2;go_ret;exact⟨rfl,A0⟩
 | true =>
  go_enter Tryz.func172,Tryz.ntmps172
  go_wp2;go_ret;exact⟨ret_tb (by simp),A0⟩
theorem here_14 (s:ByteArray) (ao:Option Addr) (L cap:Nat) (w:World):Calls Tryz.prog 172 #[xx 14 0 s (.slice ao L cap)] w fun e w'=>e=.returned (.bool (nodeN 14 0 s L))/\Below w.heap.size w w':=by
 have A0:Below w.heap.size w (w.alloc (.cells #[.int .i64 14,.int .i64 0,.string s,.slice ao L cap] 54)):=(Below.refl _ _).alloc (Nat.le_refl _) _;rw[nodeN_14];cases h:s.toList.isEmpty with
 | false =>
  go_enter Tryz.func172,Tryz.ntmps172
  go_wp2;go_ret;exact⟨rfl,A0⟩
 | true =>
  go_enter Tryz.func172,Tryz.ntmps172
  go_wp2;go_ret;exact⟨ret_tb (by simp),A0⟩
theorem here_15 (s:ByteArray) (ao:Option Addr) (L cap:Nat) (w:World):Calls Tryz.prog 172 #[xx 15 0 s (.slice ao L cap)] w fun e w'=>e=.returned (.bool (nodeN 15 0 s L))/\Below w.heap.size w w':=by
 have A0:Below w.heap.size w (w.alloc (.cells #[.int .i64 15,.int .i64 0,.string s,.slice ao L cap] 54)):=(Below.refl _ _).alloc (Nat.le_refl _) _;rw[nodeN_15];cases h:s.toList.isEmpty with
 | false =>
  go_enter Tryz.func172,Tryz.ntmps172
  go_wp2;go_ret;exact⟨rfl,A0⟩
 | true =>
  go_enter Tryz.func172,Tryz.ntmps172
  go_wp2;go_ret;exact⟨ret_tb (by simp),A0⟩
theorem here_16 (s:ByteArray) (ao:Option Addr) (L cap:Nat) (w:World):Calls Tryz.prog 172 #[xx 16 0 s (.slice ao L cap)] w fun e w'=>e=.returned (.bool (nodeN 16 0 s L))/\Below w.heap.size w w':=by
 have A0:Below w.heap.size w (w.alloc (.cells #[.int .i64 16,.int .i64 0,.string s,.slice ao L cap] 54)):=(Below.refl _ _).alloc (Nat.le_refl _) _;rw[nodeN_16];cases h:s.toList.isEmpty with
 | false =>
  go_enter Tryz.func172,Tryz.ntmps172
  go_wp2;go_ret;exact⟨rfl,A0⟩
 | true =>
  go_enter Tryz.func172,Tryz.ntmps172
  go_wp2;go_ret;exact⟨ret_tb (by simp),A0⟩
theorem here_17 (s:ByteArray) (ao:Option Addr) (L cap:Nat) (w:World):Calls Tryz.prog 172 #[xx 17 0 s (.slice ao L cap)] w fun e w'=>e=.returned (.bool (nodeN 17 0 s L))/\Below w.heap.size w w':=by
 have A0:Below w.heap.size w (w.alloc (.cells #[.int .i64 17,.int .i64 0,.string s,.slice ao L cap] 54)):=(Below.refl _ _).alloc (Nat.le_refl _) _;rw[nodeN_17];cases h:s.toList.isEmpty with
 | false =>
  go_enter Tryz.func172,Tryz.ntmps172
  go_wp2;go_ret;exact⟨rfl,A0⟩
 | true =>
  go_enter Tryz.func172,Tryz.ntmps172
  go_wp2;go_ret;exact⟨ret_tb (by simp),A0⟩
theorem here_18 (s:ByteArray) (ao:Option Addr) (L cap:Nat) (w:World) (hs:s.size<=1048576):Calls Tryz.prog 172 #[xx 18 0 s (.slice ao L cap)] w fun e w'=>e=.returned (.bool (nodeN 18 0 s L))/\Below w.heap.size w w':=by
 have A0:Below w.heap.size w (w.alloc (.cells #[.int .i64 18,.int .i64 0,.string s,.slice ao L cap] 54)):=(Below.refl _ _).alloc (Nat.le_refl _) _;have HC:=Hid.mk (fun w=>l8Rex_any s w hs);rw[nodeN_18];generalize rtB s=b at *;clear hs;cases b with
 | false =>
  go_enter Tryz.func172,Tryz.ntmps172
  go_wp2_with fail
  refine(HC.out _).mono ?_;rintro e w1 ⟨rfl,hb1⟩;have B1:=A0.trans (hb1.mono (by simp));have hc1:=fun o=>hb1.cell (p:=⟨w.heap.size,o,none⟩) (by simp);clear A0 hb1 HC;go_wp2;go_ret;exact⟨rfl,B1⟩
 | true =>
  go_enter Tryz.func172,Tryz.ntmps172
  go_wp2_with fail
  refine(HC.out _).mono ?_;rintro e w1 ⟨rfl,hb1⟩;have B1:=A0.trans (hb1.mono (by simp));have hc1:=fun o=>hb1.cell (p:=⟨w.heap.size,o,none⟩) (by simp);clear A0 hb1 HC;go_wp2;go_ret;exact⟨ret_tb (by simp),B1⟩
theorem here_6 (s:ByteArray) (ao:Option Addr) (L cap:Nat) (w:World):Calls Tryz.prog 172 #[xx 6 0 s (.slice ao L cap)] w fun e w'=>e=.returned (.bool (nodeN 6 0 s L))/\Below w.heap.size w w':=by
 have A0:Below w.heap.size w (w.alloc (.cells #[.int .i64 6,.int .i64 0,.string s,.slice ao L cap] 54)):=(Below.refl _ _).alloc (Nat.le_refl _) _;have HO:=Hid.mk (fun w=>l8Ops_any w);have HH:=Hid.mk (fun(w':World) (lb:Nat) (h:Strs w' lb opsS)=>l8Has_any opsS lb 14 s w' h rfl (by omega));rw[nodeN_6];rw[ops_has] at HH;generalize opB s=b at *;have c2:(w.alloc (.cells #[.int .i64 6,.int .i64 0,.string s,.slice ao L cap] 54)).cell? ⟨w.heap.size,2,none⟩=some (.string s):=by
  have:=heap_alloc_new w (.cells #[.int .i64 6,.int .i64 0,.string s,.slice ao L cap] 54);rw[cell_of_row _ w.heap.size 2 _ _ (0,0) this];rfl
 cases b with
 | false =>
  go_enter Tryz.func172,Tryz.ntmps172
  go_wp2_with fail
  generalize w.alloc (.cells #[.int .i64 6,.int .i64 0,.string s,.slice ao L cap] 54)=W at A0 c2 |-;have hlt:w.heap.size<W.heap.size:=World.block_lt_of_cell? W _ c2;have S0:Below W.heap.size W W.drew:=Below.drewSelf _ _ 1;have HBW:=Hid.mk (fun w' (h:Below W.heap.size W w')=>A0.trans (h.mono A0.size));refine wp_region_held_drew (S:=Below W.heap.size W) (by kernel_rfl) S0 (fun _=>?_);refine takeHD (i:=1) (v:=.pointer (some ⟨w.heap.size,2,none⟩)) (some 62) rfl rfl (by kernel_rfl) (by kernel_rfl) (by kernel_rfl) (fun _ _ _ h=>h) (Or.inl ⟨by kernel_rfl,fun w' hw=>?_⟩) S0 ?_
  ·kernel_rfl
  simp only[Act.put,List.setIfInBounds_toArray];refine takeHD (i:=2) (v:=.string s) (some 63) rfl rfl (by kernel_rfl) (by kernel_rfl) (by kernel_rfl) (fun _ _ _ h=>h) (Or.inl ⟨by kernel_rfl,fun w' hw=>?_⟩) S0 ?_
  ·have y:w'.cell? ⟨w.heap.size,2,none⟩=some (.string s):=by rw[hw.cell (p:=⟨w.heap.size,2,none⟩) hlt];exact c2
   go_simp
  simp only[Act.put,List.setIfInBounds_toArray];refine wpAnyH_ready (rs:=[0]) (by kernel_rfl) (by simp) ?_;refine AllReadyH.cons rfl (fun K hK=>?_) AllReadyH.nil;rw[if_pos (by kernel_rfl)];go_wp2_with fail
  refine(HO.out _).mono ?_;rintro e q1 ⟨rfl,hst,hbq1⟩;have S1:Below W.heap.size W q1:=S0.trans (hbq1.mono S0.size);refine hK.out _ _ S1 (fun _=>?_);clear hK K hbq1;refine wpAnyH_ready (rs:=[3]) (by kernel_rfl) (by simp) ?_;refine AllReadyH.cons rfl (fun K hK=>?_) AllReadyH.nil;rw[if_pos (by kernel_rfl)];go_wp2_with fail
  refine(HH.out _ _ hst).mono ?_;rintro e q2 ⟨rfl,hq2⟩;subst hq2;refine hK.out _ _ S1 (fun _=>?_);clear hK K;refine takeHD (i:=4) (v:=.bool false) (some 65) rfl rfl (by kernel_rfl) (by kernel_rfl) (by kernel_rfl) (fun _ _ _ h=>h) (Or.inl ⟨by kernel_rfl,fun w' hw=>?_⟩) S1 ?_
  ·kernel_rfl
  simp only[Act.put,List.setIfInBounds_toArray];refine takeHD (i:=5) (v:=undef) (some 66) rfl rfl (by kernel_rfl) (by kernel_rfl) (by kernel_rfl) (fun _ _ _ h=>h) (Or.inr ⟨by kernel_rfl,rfl⟩) S1 ?_;simp only[Act.put,List.setIfInBounds_toArray];refine takeHD (i:=6) (v:=undef) (some 67) rfl rfl (by kernel_rfl) (by kernel_rfl) (by kernel_rfl) (fun _ _ _ h=>h) (Or.inr ⟨by kernel_rfl,rfl⟩) S1 ?_;simp only[Act.put,List.setIfInBounds_toArray];refine takeHD (i:=7) (v:=.bool false) (some 68) rfl rfl (by kernel_rfl) (by kernel_rfl) (by kernel_rfl) (fun _ _ _ h=>h) (Or.inl ⟨by kernel_rfl,fun w' hw=>?_⟩) S1 ?_
  ·kernel_rfl
  simp only[Act.put,List.setIfInBounds_toArray];refine takeHD (i:=8) (v:=.bool false) (some 2) rfl rfl (by kernel_rfl) (by kernel_rfl) (by kernel_rfl) (fun _ _ _ h=>h) (Or.inl ⟨by kernel_rfl,fun w' hw=>?_⟩) S1 ?_
  ·kernel_rfl
  simp only[Act.put,List.setIfInBounds_toArray];refine wpAnyH_done (by kernel_rfl) ?_ _;have B9:=HBW.out _ S1;go_wp2;go_ret;exact⟨rfl,B9⟩
 | true =>
  go_enter Tryz.func172,Tryz.ntmps172
  go_wp2_with fail
  generalize w.alloc (.cells #[.int .i64 6,.int .i64 0,.string s,.slice ao L cap] 54)=W at A0 c2 |-;have hlt:w.heap.size<W.heap.size:=World.block_lt_of_cell? W _ c2;have S0:Below W.heap.size W W.drew:=Below.drewSelf _ _ 1;have HBW:=Hid.mk (fun w' (h:Below W.heap.size W w')=>A0.trans (h.mono A0.size));refine wp_region_held_drew (S:=Below W.heap.size W) (by kernel_rfl) S0 (fun _=>?_);refine takeHD (i:=1) (v:=.pointer (some ⟨w.heap.size,2,none⟩)) (some 62) rfl rfl (by kernel_rfl) (by kernel_rfl) (by kernel_rfl) (fun _ _ _ h=>h) (Or.inl ⟨by kernel_rfl,fun w' hw=>?_⟩) S0 ?_
  ·kernel_rfl
  simp only[Act.put,List.setIfInBounds_toArray];refine takeHD (i:=2) (v:=.string s) (some 63) rfl rfl (by kernel_rfl) (by kernel_rfl) (by kernel_rfl) (fun _ _ _ h=>h) (Or.inl ⟨by kernel_rfl,fun w' hw=>?_⟩) S0 ?_
  ·have y:w'.cell? ⟨w.heap.size,2,none⟩=some (.string s):=by rw[hw.cell (p:=⟨w.heap.size,2,none⟩) hlt];exact c2
   go_simp
  simp only[Act.put,List.setIfInBounds_toArray];refine wpAnyH_ready (rs:=[0]) (by kernel_rfl) (by simp) ?_;refine AllReadyH.cons rfl (fun K hK=>?_) AllReadyH.nil;rw[if_pos (by kernel_rfl)];go_wp2_with fail
  refine(HO.out _).mono ?_;rintro e q1 ⟨rfl,hst,hbq1⟩;have S1:Below W.heap.size W q1:=S0.trans (hbq1.mono S0.size);refine hK.out _ _ S1 (fun _=>?_);clear hK K hbq1;refine wpAnyH_ready (rs:=[3]) (by kernel_rfl) (by simp) ?_;refine AllReadyH.cons rfl (fun K hK=>?_) AllReadyH.nil;rw[if_pos (by kernel_rfl)];go_wp2_with fail
  refine(HH.out _ _ hst).mono ?_;rintro e q2 ⟨rfl,hq2⟩;subst hq2;refine hK.out _ _ S1 (fun _=>?_);clear hK K;refine takeHD (i:=4) (v:=.bool true) (some 65) rfl rfl (by kernel_rfl) (by kernel_rfl) (by kernel_rfl) (fun _ _ _ h=>h) (Or.inl ⟨by kernel_rfl,fun w' hw=>?_⟩) S1 ?_
  ·kernel_rfl
  simp only[Act.put,List.setIfInBounds_toArray];refine takeHD (i:=5) (v:=.int .i64 (L:Int)) (some 66) rfl rfl (by kernel_rfl) (by kernel_rfl) (by kernel_rfl) (fun _ _ _ h=>h) (Or.inl ⟨by kernel_rfl,fun w' hw=>?_⟩) S1 ?_
  ·kernel_rfl
  simp only[Act.put,List.setIfInBounds_toArray];refine takeHD (i:=6) (v:=.bool ((L:Int)==2)) (some 67) rfl rfl (by kernel_rfl) (by kernel_rfl) (by kernel_rfl) (fun _ _ _ h=>h) (Or.inl ⟨by kernel_rfl,fun w' hw=>?_⟩) S1 ?_
  ·go_simp
  simp only[Act.put,List.setIfInBounds_toArray];refine takeHD (i:=7) (v:=.bool ((L:Int)==2)) (some 68) rfl rfl (by kernel_rfl) (by kernel_rfl) (by kernel_rfl) (fun _ _ _ h=>h) (Or.inl ⟨by kernel_rfl,fun w' hw=>?_⟩) S1 ?_
  ·kernel_rfl
  simp only[Act.put,List.setIfInBounds_toArray];refine takeHD (i:=8) (v:=.bool ((L:Int)==2)) (some 2) rfl rfl (by kernel_rfl) (by kernel_rfl) (by kernel_rfl) (fun _ _ _ h=>h) (Or.inl ⟨by kernel_rfl,fun w' hw=>?_⟩) S1 ?_
  ·kernel_rfl
  simp only[Act.put,List.setIfInBounds_toArray];refine wpAnyH_done (by kernel_rfl) ?_ _;have B9:=HBW.out _ S1;go_wp2;go_ret;exact⟨ret_tb (by simp),B9⟩
theorem here_1 (n:Int) (s:ByteArray) (ao:Option Addr) (L cap:Nat) (w:World):Calls Tryz.prog 172 #[xx 1 n s (.slice ao L cap)] w fun e w'=>e=.returned (.bool (nodeN 1 n s L))/\Below w.heap.size w w':=by
 have A0:Below w.heap.size w (w.alloc (.cells #[.int .i64 1,.int .i64 n,.string s,.slice ao L cap] 54)):=(Below.refl _ _).alloc (Nat.le_refl _) _;have HE:Hid (nodeN 1 n s L=(bwB 0 2147483647 n&&(s.toList.isEmpty&&((L:Int)==0)))):=by
  show _=_
  unfold nodeN nodeK;rw[if_pos rfl,if_pos rfl,show((L:Int)==0)=(L==0) from len_beq L 0]
 rw[HE.out];have HB:=Hid.mk (fun w=>l1Bw_any n 0 2147483647 w);generalize bwB 0 2147483647 n=b at *;clear HE;cases b with
 | false =>
  go_enter Tryz.func172,Tryz.ntmps172
  go_wp2_with fail
  refine(HB.out _).mono ?_;rintro e w1 ⟨rfl,hw1⟩;subst hw1;go_wp2;go_ret;exact⟨rfl,A0⟩
 | true =>
  cases h:s.toList.isEmpty with
  | false =>
   go_enter Tryz.func172,Tryz.ntmps172
   go_wp2_with fail
   refine(HB.out _).mono ?_;rintro e w1 ⟨rfl,hw1⟩;subst hw1;go_wp2;go_ret;exact⟨rfl,A0⟩
  | true =>
   go_enter Tryz.func172,Tryz.ntmps172
   go_wp2_with fail
   refine(HB.out _).mono ?_;rintro e w1 ⟨rfl,hw1⟩;subst hw1;go_wp2;go_ret;exact⟨ret_tb (by simp),A0⟩
theorem here_n (k n:Int) (s:ByteArray) (ao:Option Addr) (L cap:Nat) (w:World) (h1:(k != 1)=true) (hn:(n != 0)=true):Calls Tryz.prog 172 #[xx k n s (.slice ao L cap)] w fun e w'=>e=.returned (.bool (false))/\Below w.heap.size w w':=by
 have A0:Below w.heap.size w (w.alloc (.cells #[.int .i64 k,.int .i64 n,.string s,.slice ao L cap] 54)):=(Below.refl _ _).alloc (Nat.le_refl _) _;go_enter Tryz.func172,Tryz.ntmps172
 go_wp2;go_ret;exact⟨rfl,A0⟩
theorem here_x (k n:Int) (s:ByteArray) (ao:Option Addr) (L cap:Nat) (w:World) (h1:(k != 1)=true) (e1:(k==1)=false) (e2:(k==2)=false) (e3:(k==3)=false) (e4:(k==4)=false) (e9:(k==9)=false) (e6:(k==6)=false) (e10:(k==10)=false) (e18:(k==18)=false) (e11:(k==11)=false) (e5:(k==5)=false) (e7:(k==7)=false) (e8:(k==8)=false) (e12:(k==12)=false) (e17:(k==17)=false) (e13:(k==13)=false) (e16:(k==16)=false) (e14:(k==14)=false) (e15:(k==15)=false):Calls Tryz.prog 172 #[xx k n s (.slice ao L cap)] w fun e w'=>e=.returned (.bool (false))/\Below w.heap.size w w':=by
 have A0:Below w.heap.size w (w.alloc (.cells #[.int .i64 k,.int .i64 n,.string s,.slice ao L cap] 54)):=(Below.refl _ _).alloc (Nat.le_refl _) _;cases hn:(n != 0) with
 | true =>
  go_enter Tryz.func172,Tryz.ntmps172
  go_wp2;go_ret;exact⟨rfl,A0⟩
 | false =>
  go_enter Tryz.func172,Tryz.ntmps172
  go_wp2;go_ret;exact⟨rfl,A0⟩
theorem l8Here_any (k n:Int) (s:ByteArray) (ao:Option Addr) (L cap:Nat) (w:World) (hm:s.size<=1048576):Calls Tryz.prog 172 #[xx k n s (.slice ao L cap)] w fun e w'=>e=.returned (.bool (nodeN k n s L))/\Below w.heap.size w w':=by
 have hs:s.size<=maxLen:=by unfold maxLen;omega
 by_cases h1:k=1
 ·subst h1;exact here_1 n s ao L cap w
 by_cases hn:n=0
 rotate_left
 ·rw[nodeN_n h1 hn]
  exact here_n k n s ao L cap w (by simpa using h1) (by simpa using hn)
 subst hn;by_cases h2:k=2
 ·subst h2;exact here_2 s ao L cap w hs
 by_cases h3:k=3
 ·subst h3;exact here_3 s ao L cap w hs
 by_cases h4:k=4
 ·subst h4;exact here_4 s ao L cap w hs
 by_cases h9:k=9
 ·subst h9;exact here_9 s ao L cap w hs
 by_cases h6:k=6
 ·subst h6;exact here_6 s ao L cap w
 by_cases h10:k=10
 ·subst h10;exact here_10 s ao L cap w hm
 by_cases h18:k=18
 ·subst h18;exact here_18 s ao L cap w hm
 by_cases h11:k=11
 ·subst h11;exact here_11 s ao L cap w hs
 by_cases h5:k=5
 ·subst h5;exact here_5 s ao L cap w
 by_cases h7:k=7
 ·subst h7;exact here_7 s ao L cap w
 by_cases h8:k=8
 ·subst h8;exact here_8 s ao L cap w
 by_cases h12:k=12
 ·subst h12;exact here_12 s ao L cap w
 by_cases h17:k=17
 ·subst h17;exact here_17 s ao L cap w
 by_cases h13:k=13
 ·subst h13;exact here_13 s ao L cap w
 by_cases h16:k=16
 ·subst h16;exact here_16 s ao L cap w
 by_cases h14:k=14
 ·subst h14;exact here_14 s ao L cap w
 by_cases h15:k=15
 ·subst h15;exact here_15 s ao L cap w
 rw[ex_eqx 0 s L (by omega)];exact here_x k 0 s ao L cap w (by simpa using h1) (beq_false_of_ne h1) (beq_false_of_ne h2) (beq_false_of_ne h3) (beq_false_of_ne h4) (beq_false_of_ne h9) (beq_false_of_ne h6) (beq_false_of_ne h10) (beq_false_of_ne h18) (beq_false_of_ne h11) (beq_false_of_ne h5) (beq_false_of_ne h7) (beq_false_of_ne h8) (beq_false_of_ne h12) (beq_false_of_ne h17) (beq_false_of_ne h13) (beq_false_of_ne h16) (beq_false_of_ne h14) (beq_false_of_ne h15)
def PartsX (f:Nat):Prop:=∀ (t:Ex) (B:Nat->Prop) (v:Value) (w:World),El w B t.l v ->
 Calls Tryz.prog 145 #[xx t.k t.n t.s v,.int .i64 (11-(f:Int))] w fun e w'=>e=.returned (.int .i64 (partsX f t))/\Below w.heap.size w w'
theorem partsX_zero:PartsX 0:=by
 intro t B v w h;obtain⟨ao,cap,rfl,hl1,hl2,hl3⟩:=h.len;obtain⟨k,hk⟩:∃ k,t.k=k:=⟨_,rfl⟩;obtain⟨n,hnn⟩:∃ n,t.n=n:=⟨_,rfl⟩;obtain⟨s,hsn⟩:∃ s,t.s=s:=⟨_,rfl⟩;have HR:Hid (((partsX 0 t:Nat):Int)=101):=rfl;rw[hk,hnn,hsn];clear h;go_enter Tryz.func145,Tryz.ntmps145
 go_wp2;go_ret;exact⟨ret_j HR.out.symm,(Below.refl _ _).alloc (Nat.le_refl _) _⟩
theorem partsX_succ (f:Nat) (hf:f<=9) (ih:PartsX f):PartsX (f+1):=by
 intro t B v w h;have HE:Hid (partsX (f+1) t=t.l.foldl (partsXG (partsX f)) 1):=rfl;obtain⟨R,hR⟩:∃ R,partsX (f+1) t=R:=⟨_,rfl⟩;obtain⟨k,hk⟩:∃ k,t.k=k:=⟨_,rfl⟩;obtain⟨n,hnn⟩:∃ n,t.n=n:=⟨_,rfl⟩;obtain⟨s,hsn⟩:∃ s,t.s=s:=⟨_,rfl⟩;obtain⟨l,hln⟩:∃ l,t.l=l:=⟨_,rfl⟩;rw[hR,hln] at HE;rw[hln] at h;rw[hk,hnn,hsn,hR];clear hR hk hnn hsn hln;obtain⟨ao,cap,rfl,hl1,hl2,hl3⟩:=h.len;have hm:cap<=9223372036854775807:=by unfold maxLen at hl2;omega
 have HH:=Hid.mk h;have HI:=Hid.mk ih;clear ih h hl2;obtain⟨d,hd⟩:∃ d:Int,11-((f+1:Nat):Int)=d:=⟨_,rfl⟩;rw[hd];have hd6:¬ 10<d:=by omega
 have hd7:d+1=11-(f:Int):=by omega
 have B0:Below w.heap.size w (w.alloc (.cells #[.int .i64 k,.int .i64 n,.string s,.slice ao l.length cap] 54)):=(Below.refl _ _).alloc (Nat.le_refl _) _;have B01:Below (w.heap.size+1) (w.alloc (.cells #[.int .i64 k,.int .i64 n,.string s,.slice ao l.length cap] 54)) (w.alloc (.cells #[.int .i64 k,.int .i64 n,.string s,.slice ao l.length cap] 54)):=Below.refl _ _;go_enter Tryz.func145,Tryz.ntmps145
 go_wp2;go_loopw [5,6] (fun q i wr=>∃ (k1 m:Nat),k1<=l.length/\i=.int .i64 k1/\q=.int .i64 m/\m<=2000/\Hid (m=(l.take k1).foldl (partsXG (partsX f)) 1)/\Below (w.heap.size+1) (w.alloc (.cells #[.int .i64 k,.int .i64 n,.string s,.slice ao l.length cap] 54)) wr) (fun _ i _=>l.length-(intOf i).toNat)
 case atStart=>exact⟨0,1,Nat.zero_le _,rfl,rfl,by omega,rfl,B01⟩
 case round =>
  obtain⟨k1,m,hk,rfl,rfl,m1,Hm,hbel⟩:=hrel;clear B01;have hc1:=fun o=>hbel.cell (p:=⟨w.heap.size,o,none⟩) (by simp);have hbw:=B0.trans (hbel.mono (by omega));have hs1:=hbel.size;simp at hs1;by_cases hkl:k1<l.length
  ·have hi1:(k1:Int)<(l.length:Int):=by omega
   by_cases h60:m<=100
   ·have h60':(m:Int)<=100:=by omega
    obtain⟨b,off,V,rfl,hel⟩:=HH.out.elems (by intro hn;rw[hn] at hkl;simp at hkl);obtain⟨h3,hsub,hss⟩:=hel k1 hkl;have HT:=Hid.mk (partsX_take (f:=f) l k1 hkl);obtain⟨t,ht⟩:∃ t,l[k1]=t:=⟨_,rfl⟩;rw[ht] at h3 hsub hss HT;clear ht hel;obtain⟨c0,cn,c1,c2⟩:=h3.kept (w':=wr) (hbw.block b (World.block_lt_of_cell? w _ h3.1));have HCall:=Hid.mk (HI.out t B (V k1) wr (hsub.grow hbw));obtain⟨bd0,bd1⟩:=partsX_bd f t;obtain⟨av,cv,hv,-,-,-⟩:=hsub.len;rw[hv] at c2 HCall;obtain⟨tk,htk⟩:∃ tk,t.k=tk:=⟨_,rfl⟩;obtain⟨tn,htn⟩:∃ tn,t.n=tn:=⟨_,rfl⟩;obtain⟨ts,hts⟩:∃ ts,t.s=ts:=⟨_,rfl⟩;rw[htk,htn,hts] at HCall;rw[htk] at c0;rw[htn] at cn;rw[hts] at c1;obtain⟨q,hq⟩:∃ q,partsX f t=q:=⟨_,rfl⟩;rw[hq] at bd0 bd1 HCall;have HQ:Hid ((l.take (k1+1)).foldl (partsXG (partsX f)) 1=m+q):=by
     show _=_
     rw[HT.out,<- Hm.out,partsXG,if_pos h60,hq]
    clear hsub hss h3 hv HT Hm hq htk htn hts hbw;go_wp2_with fail
    refine HCall.out.mono ?_;rintro e w2 ⟨rfl,hb2⟩;have B3:=hbel.trans (hb2.mono (by omega));clear hbel hb2 HCall hc1;go_wp2;go_roundw
    case rel=>exact⟨k1+1,m+q,by omega,by go_num,by go_num,by omega,HQ.out.symm,B3⟩
    case measure=>simp[intOf];omega
   ·have h60':¬ (m:Int)<=100:=by omega
    have HF:Hid ((R:Int)=m):=by
     show _=_
     have e1:=Hm.out;have:=partsX_cut (f:=f) l k1 (by omega);rw[HE.out,this,<- e1]
    clear Hm HE;go_wp2;go_ret;exact⟨ret_j HF.out.symm,hbw⟩
  ·have e:k1=l.length:=by omega
   subst e;have HF:Hid ((R:Int)=m):=(by show _=_;rw[HE.out,Hm.out,List.take_length]);clear Hm HE;go_wp2;go_ret;exact⟨ret_j HF.out.symm,hbw⟩
end Go.Proofs.YtkbijjkgfojchaaGreat
namespace Go.Proofs.YtkbijjkgfojchaaGreat
inductive InX:Ex->Ex->Prop
 | self (t:Ex):InX t t
 | sub {x y t:Ex} (h:y∈t.l) (hx:InX x y):InX x t
end Go.Proofs.YtkbijjkgfojchaaGreat
