/- What each kind of term asks of its number,its text and how many parts it has: the program's. .. -/
import Derived.Test.YtkbijjkgfojchaaGreatQRun13
namespace Go.Proofs.YtkbijjkgfojchaaGreat
set_option maxHeartbeats 1000000
open Go.RowKit
set_option maxRecDepth 8000
theorem rt_long {s:ByteArray} (h:200<s.size):rtB s=false:=by unfold rtB;rw[decide_eq_false_iff_not];omega
theorem rt_yes {s:ByteArray} (h:s.size<=200) {t:Tr} (ht:IsTx s t):rtB s=true:=by unfold rtB;simp only[decide_eq_true_eq];exact⟨h,t,ht⟩
theorem rt_no {s:ByteArray} (h:∀ t,¬ IsTx s t):rtB s=false:=by
 unfold rtB;rw[decide_eq_false_iff_not];rintro⟨-,t,ht⟩;exact h t ht
theorem isRexText_any (s:ByteArray) (w:World) (hs:s.size<=1048576):Calls Tryz.prog 253 #[.string s] w fun e w'=>e=.returned (.bool (rtB s))/\Below w.heap.size w w':=by
 by_cases h2:200<s.size
 ·have hi:(200:Int)<(s.size:Int):=by omega
  have H:=Hid.mk (rt_long h2);have RB:Below w.heap.size w w:=Below.refl _ _;clear h2;go_enter Tryz.func253,Tryz.ntmps253
  go_wp2;go_ret;exact⟨ret_tb H.out.symm,RB⟩
 ·have hi:¬ (200:Int)<(s.size:Int):=by omega
  by_cases h:∃ t,IsTx s t
  ·obtain⟨t,ht⟩:=h
   have H:=Hid.mk (rt_yes (by omega) ht);have HP:=Hid.mk (fun w=>implParse_yes s t w ht);clear ht h2;obtain⟨k,hk⟩:∃ k,t.k=k:=⟨_,rfl⟩;obtain⟨ts,hts⟩:∃ ts,t.s=ts:=⟨_,rfl⟩;rw[hk,hts] at HP;clear hk hts;go_enter Tryz.func253,Tryz.ntmps253
   go_wp2_with fail
   refine(HP.out _).mono ?_;rintro e w1 ⟨u,rfl,ho,-,hb1⟩;obtain⟨au,cu,rfl⟩:=ho.value;have HB:=Hid.mk (fun o=>hb1.alloc hb1.size o);clear HP hb1 ho;go_wp2;go_ret;exact⟨ret_tb H.out.symm,HB.out _⟩
  ·have hno:∀ t,¬ IsTx s t:=fun t ht=>h ⟨t,ht⟩
   have H:=Hid.mk (rt_no hno);have HP:=Hid.mk (fun w=>implParse_no s w hs hno);clear h hno h2;go_enter Tryz.func253,Tryz.ntmps253
   go_wp2_with fail
   refine(HP.out _).mono ?_;rintro e w1 ⟨rfl,hb1⟩;have HB:=Hid.mk (fun o=>hb1.alloc hb1.size o);clear HP hb1;go_wp2;go_ret;exact⟨ret_tb H.out.symm,HB.out _⟩
theorem cHas (k n:Int) (s:ByteArray) (ao:Option Addr) (L cap:Nat) (c:Int) (w:World):Calls Tryz.prog 235 #[xx k n s (.slice ao L cap),.int .i64 c] w fun e w'=>e=.returned (.bool (((L:Int)==c)&&n==0))/\Below w.heap.size w w':=by
 have A0:Below w.heap.size w (w.alloc (.cells #[.int .i64 k,.int .i64 n,.string s,.slice ao L cap] 216)):=(Below.refl _ _).alloc (Nat.le_refl _) _;cases h1:((L:Int)==c) with
 | false =>
  go_enter Tryz.func235,Tryz.ntmps235
  go_wp2;go_ret;exact⟨rfl,A0⟩
 | true =>
  go_enter Tryz.func235,Tryz.ntmps235
  go_wp2;go_ret;exact⟨ret_tb (by simp),A0⟩
theorem bHas (k n:Int) (s:ByteArray) (ao:Option Addr) (L cap:Nat) (c:Int) (w:World):Calls Tryz.prog 240 #[xx k n s (.slice ao L cap),.int .i64 c] w fun e w'=>e=.returned (.bool ((((L:Int)==c)&&n==0)&&s.toList.isEmpty))/\Below w.heap.size w w':=by
 have A0:Below w.heap.size w (w.alloc (.cells #[.int .i64 k,.int .i64 n,.string s,.slice ao L cap] 226)):=(Below.refl _ _).alloc (Nat.le_refl _) _;have HC:=Hid.mk (fun w=>cHas k n s ao L cap c w);generalize (((L:Int)==c)&&n==0)=b1 at *;cases b1 with
 | false =>
  go_enter Tryz.func240,Tryz.ntmps240
  go_wp2_with fail
  refine(HC.out _).mono ?_;rintro e w1 ⟨rfl,hb1⟩;have hc1:=fun o=>hb1.cell (p:=⟨w.heap.size,o,none⟩) (by simp);have B1:=A0.trans (hb1.mono (by simp));clear A0 hb1 HC;go_wp2;go_ret;exact⟨rfl,B1⟩
 | true =>
  go_enter Tryz.func240,Tryz.ntmps240
  go_wp2_with fail
  refine(HC.out _).mono ?_;rintro e w1 ⟨rfl,hb1⟩;have hc1:=fun o=>hb1.cell (p:=⟨w.heap.size,o,none⟩) (by simp);have B1:=A0.trans (hb1.mono (by simp));clear A0 hb1 HC;go_wp2;go_ret;exact⟨ret_tb (by simp),B1⟩
theorem nHas (k n:Int) (s:ByteArray) (ao:Option Addr) (L cap:Nat) (c:Int) (w:World) (hs:s.size<=maxLen):Calls Tryz.prog 234 #[xx k n s (.slice ao L cap),.int .i64 c] w fun e w'=>e=.returned (.bool ((((L:Int)==c)&&n==0)&&nmB s))/\Below w.heap.size w w':=by
 have A0:Below w.heap.size w (w.alloc (.cells #[.int .i64 k,.int .i64 n,.string s,.slice ao L cap] 222)):=(Below.refl _ _).alloc (Nat.le_refl _) _;have HC:=Hid.mk (fun w=>cHas k n s ao L cap c w);have HN:=Hid.mk (fun w=>implNameOk_any s w hs);generalize (((L:Int)==c)&&n==0)=b1 at *;generalize nmB s=b2 at *;cases b1 with
 | false =>
  go_enter Tryz.func234,Tryz.ntmps234
  go_wp2_with fail
  refine(HC.out _).mono ?_;rintro e w1 ⟨rfl,hb1⟩;have hc1:=fun o=>hb1.cell (p:=⟨w.heap.size,o,none⟩) (by simp);have B1:=A0.trans (hb1.mono (by simp));clear A0 hb1 HC;go_wp2;go_ret;exact⟨rfl,B1⟩
 | true =>
  go_enter Tryz.func234,Tryz.ntmps234
  go_wp2_with fail
  refine(HC.out _).mono ?_;rintro e w1 ⟨rfl,hb1⟩;have hc1:=fun o=>hb1.cell (p:=⟨w.heap.size,o,none⟩) (by simp);have B1:=A0.trans (hb1.mono (by simp));clear A0 hb1 HC;go_wp2_with fail
  refine(HN.out _).mono ?_;rintro e w2 ⟨rfl,hw⟩;subst hw;go_wp2;go_ret;exact⟨ret_tb (by simp),B1⟩
theorem rHas (k n:Int) (s:ByteArray) (ao:Option Addr) (L cap:Nat) (c:Int) (w:World) (hs:s.size<=1048576):Calls Tryz.prog 252 #[xx k n s (.slice ao L cap),.int .i64 c] w fun e w'=>e=.returned (.bool ((((L:Int)==c)&&n==0)&&rtB s))/\Below w.heap.size w w':=by
 have A0:Below w.heap.size w (w.alloc (.cells #[.int .i64 k,.int .i64 n,.string s,.slice ao L cap] 233)):=(Below.refl _ _).alloc (Nat.le_refl _) _;have HC:=Hid.mk (fun w=>cHas k n s ao L cap c w);have HN:=Hid.mk (fun w=>isRexText_any s w hs);generalize (((L:Int)==c)&&n==0)=b1 at *;generalize rtB s=b2 at *;cases b1 with
 | false =>
  go_enter Tryz.func252,Tryz.ntmps252
  go_wp2_with fail
  refine(HC.out _).mono ?_;rintro e w1 ⟨rfl,hb1⟩;have hc1:=fun o=>hb1.cell (p:=⟨w.heap.size,o,none⟩) (by simp);have B1:=A0.trans (hb1.mono (by simp));clear A0 hb1 HC;go_wp2;go_ret;exact⟨rfl,B1⟩
 | true =>
  go_enter Tryz.func252,Tryz.ntmps252
  go_wp2_with fail
  refine(HC.out _).mono ?_;rintro e w1 ⟨rfl,hb1⟩;have hc1:=fun o=>hb1.cell (p:=⟨w.heap.size,o,none⟩) (by simp);have B1:=A0.trans (hb1.mono (by simp));clear A0 hb1 HC;go_wp2_with fail
  refine(HN.out _).mono ?_;rintro e w2 ⟨rfl,hb2⟩;have B2:=B1.trans (hb2.mono B1.size);clear B1 hb2 HN;go_wp2;go_ret;exact⟨ret_tb (by simp),B2⟩
theorem litTok (k n:Int) (s:ByteArray) (ao:Option Addr) (L cap:Nat) (c:Int) (w:World):Calls Tryz.prog 226 #[xx k n s (.slice ao L cap),.int .i64 c] w fun e w'=>e=.returned (vl c n s)/\Below w.heap.size w w':=by
 go_enter Tryz.func226,Tryz.ntmps226
 go_wp2;refine bodyPost_ret (v:=.agg #[.int .i64 c,.int .i64 n,.string s]) (by simp[results,Tryz.results226,go_sem]) rfl ⟨rfl,?_⟩;exact((Below.refl _ _).alloc (Nat.le_refl _) _).alloc (by simp) _
theorem litIs (k n:Int) (s:ByteArray) (ao:Option Addr) (L cap:Nat) (c:Int) (w:World) (hs:s.size<=maxLen):Calls Tryz.prog 224 #[xx k n s (.slice ao L cap),.int .i64 c] w fun e w'=>e=.returned (.bool (((L:Int)==0)&&tokB c n s))/\Below w.heap.size w w':=by
 have A0:Below w.heap.size w (w.alloc (.cells #[.int .i64 k,.int .i64 n,.string s,.slice ao L cap] 218)):=(Below.refl _ _).alloc (Nat.le_refl _) _;have HT:=Hid.mk (fun w=>litTok k n s ao L cap c w);have HO:=Hid.mk (fun w=>implTokenOk_any c n s w hs);generalize tokB c n s=b2 at *;clear hs;cases h1:((L:Int)==0) with
 | false =>
  go_enter Tryz.func224,Tryz.ntmps224
  go_wp2;go_ret;exact⟨rfl,A0⟩
 | true =>
  go_enter Tryz.func224,Tryz.ntmps224
  go_wp2_with fail
  refine(HT.out _).mono ?_;rintro e w1 ⟨rfl,hb1⟩;have B1:=A0.trans (hb1.mono (by simp));clear A0 hb1 HT;go_wp2_with fail
  refine(HO.out _).mono ?_;rintro e w2 ⟨rfl,hb2⟩;have B2:=B1.trans (hb2.mono B1.size);clear B1 hb2 HO;go_wp2;go_ret;exact⟨ret_tb (by simp),B2⟩
theorem intRight (k n:Int) (s:ByteArray) (ao:Option Addr) (L cap:Nat) (w:World) (hs:s.size<=maxLen):Calls Tryz.prog 222 #[xx k n s (.slice ao L cap)] w fun e w'=>e=.returned (.bool (((L:Int)==0)&&tokB 1 n s))/\Below w.heap.size w w':=by
 have A0:Below w.heap.size w (w.alloc (.cells #[.int .i64 k,.int .i64 n,.string s,.slice ao L cap] 220)):=(Below.refl _ _).alloc (Nat.le_refl _) _;have HC:=Hid.mk (fun w=>litIs k n s ao L cap 1 w hs);go_enter Tryz.func222,Tryz.ntmps222
 go_wp2_with fail
 refine(HC.out _).mono ?_;rintro e w1 ⟨rfl,hb1⟩;have B1:=A0.trans (hb1.mono (by simp));clear A0 hb1 HC;go_wp2;go_ret;exact⟨rfl,B1⟩
theorem textRight (k n:Int) (s:ByteArray) (ao:Option Addr) (L cap:Nat) (w:World) (hs:s.size<=maxLen):Calls Tryz.prog 230 #[xx k n s (.slice ao L cap)] w fun e w'=>e=.returned (.bool (((L:Int)==0)&&tokB 3 n s))/\Below w.heap.size w w':=by
 have A0:Below w.heap.size w (w.alloc (.cells #[.int .i64 k,.int .i64 n,.string s,.slice ao L cap] 221)):=(Below.refl _ _).alloc (Nat.le_refl _) _;have HC:=Hid.mk (fun w=>litIs k n s ao L cap 3 w hs);go_enter Tryz.func230,Tryz.ntmps230
 go_wp2_with fail
 refine(HC.out _).mono ?_;rintro e w1 ⟨rfl,hb1⟩;have B1:=A0.trans (hb1.mono (by simp));clear A0 hb1 HC;go_wp2;go_ret;exact⟨rfl,B1⟩
theorem varRight (k n:Int) (s:ByteArray) (ao:Option Addr) (L cap:Nat) (w:World) (hs:s.size<=maxLen):Calls Tryz.prog 232 #[xx k n s (.slice ao L cap)] w fun e w'=>e=.returned (.bool (((((L:Int)==0)&&n==0)&&nmB s)))/\Below w.heap.size w w':=by
 have A0:Below w.heap.size w (w.alloc (.cells #[.int .i64 k,.int .i64 n,.string s,.slice ao L cap] 224)):=(Below.refl _ _).alloc (Nat.le_refl _) _;have HC:=Hid.mk (fun w=>nHas k n s ao L cap 0 w hs);go_enter Tryz.func232,Tryz.ntmps232
 go_wp2_with fail
 refine(HC.out _).mono ?_;rintro e w1 ⟨rfl,hb1⟩;have B1:=A0.trans (hb1.mono (by simp));clear A0 hb1 HC;go_wp2;go_ret;exact⟨rfl,B1⟩
theorem atRight (k n:Int) (s:ByteArray) (ao:Option Addr) (L cap:Nat) (w:World) (hs:s.size<=maxLen):Calls Tryz.prog 236 #[xx k n s (.slice ao L cap)] w fun e w'=>e=.returned (.bool (((((L:Int)==1)&&n==0)&&nmB s)))/\Below w.heap.size w w':=by
 have A0:Below w.heap.size w (w.alloc (.cells #[.int .i64 k,.int .i64 n,.string s,.slice ao L cap] 225)):=(Below.refl _ _).alloc (Nat.le_refl _) _;have HC:=Hid.mk (fun w=>nHas k n s ao L cap 1 w hs);go_enter Tryz.func236,Tryz.ntmps236
 go_wp2_with fail
 refine(HC.out _).mono ?_;rintro e w1 ⟨rfl,hb1⟩;have B1:=A0.trans (hb1.mono (by simp));clear A0 hb1 HC;go_wp2;go_ret;exact⟨rfl,B1⟩
theorem fieldRight (k n:Int) (s:ByteArray) (ao:Option Addr) (L cap:Nat) (w:World):Calls Tryz.prog 238 #[xx k n s (.slice ao L cap)] w fun e w'=>e=.returned (.bool (((((L:Int)==1)&&n==0)&&s.toList.isEmpty)))/\Below w.heap.size w w':=by
 have A0:Below w.heap.size w (w.alloc (.cells #[.int .i64 k,.int .i64 n,.string s,.slice ao L cap] 228)):=(Below.refl _ _).alloc (Nat.le_refl _) _;have HC:=Hid.mk (fun w=>bHas k n s ao L cap 1 w);go_enter Tryz.func238,Tryz.ntmps238
 go_wp2_with fail
 refine(HC.out _).mono ?_;rintro e w1 ⟨rfl,hb1⟩;have B1:=A0.trans (hb1.mono (by simp));clear A0 hb1 HC;go_wp2;go_ret;exact⟨rfl,B1⟩
theorem binRight (k n:Int) (s:ByteArray) (ao:Option Addr) (L cap:Nat) (w:World):Calls Tryz.prog 241 #[xx k n s (.slice ao L cap)] w fun e w'=>e=.returned (.bool (((((L:Int)==2)&&n==0)&&opB s)))/\Below w.heap.size w w':=by
 have A0:Below w.heap.size w (w.alloc (.cells #[.int .i64 k,.int .i64 n,.string s,.slice ao L cap] 229)):=(Below.refl _ _).alloc (Nat.le_refl _) _;have HC:=Hid.mk (fun w=>cHas k n s ao L cap 2 w);have HN:=Hid.mk (fun w=>isSignOfTwo_any s w);generalize (((L:Int)==2)&&n==0)=b1 at *;generalize opB s=b2 at *;cases b1 with
 | false =>
  go_enter Tryz.func241,Tryz.ntmps241
  go_wp2_with fail
  refine(HC.out _).mono ?_;rintro e w1 ⟨rfl,hb1⟩;have hc1:=fun o=>hb1.cell (p:=⟨w.heap.size,o,none⟩) (by simp);have B1:=A0.trans (hb1.mono (by simp));clear A0 hb1 HC;go_wp2;go_ret;exact⟨rfl,B1⟩
 | true =>
  go_enter Tryz.func241,Tryz.ntmps241
  go_wp2_with fail
  refine(HC.out _).mono ?_;rintro e w1 ⟨rfl,hb1⟩;have hc1:=fun o=>hb1.cell (p:=⟨w.heap.size,o,none⟩) (by simp);have B1:=A0.trans (hb1.mono (by simp));clear A0 hb1 HC;go_wp2_with fail
  refine(HN.out _).mono ?_;rintro e w2 ⟨rfl,hw⟩;subst hw;go_wp2;go_ret;exact⟨ret_tb (by simp),B1⟩
theorem notRight (k n:Int) (s:ByteArray) (ao:Option Addr) (L cap:Nat) (w:World):Calls Tryz.prog 244 #[xx k n s (.slice ao L cap)] w fun e w'=>e=.returned (.bool (((((L:Int)==1)&&n==0)&&s.toList.isEmpty)))/\Below w.heap.size w w':=by
 have A0:Below w.heap.size w (w.alloc (.cells #[.int .i64 k,.int .i64 n,.string s,.slice ao L cap] 230)):=(Below.refl _ _).alloc (Nat.le_refl _) _;have HC:=Hid.mk (fun w=>bHas k n s ao L cap 1 w);go_enter Tryz.func244,Tryz.ntmps244
 go_wp2_with fail
 refine(HC.out _).mono ?_;rintro e w1 ⟨rfl,hb1⟩;have B1:=A0.trans (hb1.mono (by simp));clear A0 hb1 HC;go_wp2;go_ret;exact⟨rfl,B1⟩
theorem negRight (k n:Int) (s:ByteArray) (ao:Option Addr) (L cap:Nat) (w:World):Calls Tryz.prog 246 #[xx k n s (.slice ao L cap)] w fun e w'=>e=.returned (.bool (((((L:Int)==1)&&n==0)&&s.toList.isEmpty)))/\Below w.heap.size w w':=by
 have A0:Below w.heap.size w (w.alloc (.cells #[.int .i64 k,.int .i64 n,.string s,.slice ao L cap] 231)):=(Below.refl _ _).alloc (Nat.le_refl _) _;have HC:=Hid.mk (fun w=>bHas k n s ao L cap 1 w);go_enter Tryz.func246,Tryz.ntmps246
 go_wp2_with fail
 refine(HC.out _).mono ?_;rintro e w1 ⟨rfl,hb1⟩;have B1:=A0.trans (hb1.mono (by simp));clear A0 hb1 HC;go_wp2;go_ret;exact⟨rfl,B1⟩
theorem inRight (k n:Int) (s:ByteArray) (ao:Option Addr) (L cap:Nat) (w:World) (hs:s.size<=maxLen):Calls Tryz.prog 248 #[xx k n s (.slice ao L cap)] w fun e w'=>e=.returned (.bool (((((L:Int)==1)&&n==0)&&nmB s)))/\Below w.heap.size w w':=by
 have A0:Below w.heap.size w (w.alloc (.cells #[.int .i64 k,.int .i64 n,.string s,.slice ao L cap] 232)):=(Below.refl _ _).alloc (Nat.le_refl _) _;have HC:=Hid.mk (fun w=>nHas k n s ao L cap 1 w hs);go_enter Tryz.func248,Tryz.ntmps248
 go_wp2_with fail
 refine(HC.out _).mono ?_;rintro e w1 ⟨rfl,hb1⟩;have B1:=A0.trans (hb1.mono (by simp));clear A0 hb1 HC;go_wp2;go_ret;exact⟨rfl,B1⟩
theorem matchRight (k n:Int) (s:ByteArray) (ao:Option Addr) (L cap:Nat) (w:World) (hs:s.size<=1048576):Calls Tryz.prog 250 #[xx k n s (.slice ao L cap)] w fun e w'=>e=.returned (.bool (((((L:Int)==1)&&n==0)&&rtB s)))/\Below w.heap.size w w':=by
 have A0:Below w.heap.size w (w.alloc (.cells #[.int .i64 k,.int .i64 n,.string s,.slice ao L cap] 235)):=(Below.refl _ _).alloc (Nat.le_refl _) _;have HC:=Hid.mk (fun w=>rHas k n s ao L cap 1 w hs);go_enter Tryz.func250,Tryz.ntmps250
 go_wp2_with fail
 refine(HC.out _).mono ?_;rintro e w1 ⟨rfl,hb1⟩;have B1:=A0.trans (hb1.mono (by simp));clear A0 hb1 HC;go_wp2;go_ret;exact⟨rfl,B1⟩
theorem callRight (k n:Int) (s:ByteArray) (ao:Option Addr) (L cap:Nat) (w:World) (hs:s.size<=maxLen):Calls Tryz.prog 282 #[xx k n s (.slice ao L cap)] w fun e w'=>e=.returned (.bool ((decide (L<=4)&&((((L:Int)==(L:Int))&&n==0)&&nmB s))))/\Below w.heap.size w w':=by
 have A0:Below w.heap.size w (w.alloc (.cells #[.int .i64 k,.int .i64 n,.string s,.slice ao L cap] 236)):=(Below.refl _ _).alloc (Nat.le_refl _) _;have HC:=Hid.mk (fun w=>nHas k n s ao L cap (L:Int) w hs);generalize ((((L:Int)==(L:Int))&&n==0)&&nmB s)=b1 at *;by_cases h4:L<=4
 ·have hi:(L:Int)<=4:=by omega
  rw[decide_eq_true h4,Bool.true_and];clear h4;go_enter Tryz.func282,Tryz.ntmps282
  go_wp2_with fail
  refine(HC.out _).mono ?_;rintro e w1 ⟨rfl,hb1⟩;have B1:=A0.trans (hb1.mono (by simp));clear A0 hb1 HC;go_wp2;go_ret;exact⟨rfl,B1⟩
 ·have hi:¬ (L:Int)<=4:=by omega
  rw[decide_eq_false h4,Bool.false_and];clear h4 HC;go_enter Tryz.func282,Tryz.ntmps282
  go_wp2;go_ret;exact⟨rfl,A0⟩
theorem lenRight (k n:Int) (s:ByteArray) (ao:Option Addr) (L cap:Nat) (w:World):Calls Tryz.prog 284 #[xx k n s (.slice ao L cap)] w fun e w'=>e=.returned (.bool (((((L:Int)==1)&&n==0)&&s.toList.isEmpty)))/\Below w.heap.size w w':=by
 have A0:Below w.heap.size w (w.alloc (.cells #[.int .i64 k,.int .i64 n,.string s,.slice ao L cap] 237)):=(Below.refl _ _).alloc (Nat.le_refl _) _;have HC:=Hid.mk (fun w=>bHas k n s ao L cap 1 w);go_enter Tryz.func284,Tryz.ntmps284
 go_wp2_with fail
 refine(HC.out _).mono ?_;rintro e w1 ⟨rfl,hb1⟩;have B1:=A0.trans (hb1.mono (by simp));clear A0 hb1 HC;go_wp2;go_ret;exact⟨rfl,B1⟩
theorem subRight (k n:Int) (s:ByteArray) (ao:Option Addr) (L cap:Nat) (w:World):Calls Tryz.prog 286 #[xx k n s (.slice ao L cap)] w fun e w'=>e=.returned (.bool (((((L:Int)==3)&&n==0)&&s.toList.isEmpty)))/\Below w.heap.size w w':=by
 have A0:Below w.heap.size w (w.alloc (.cells #[.int .i64 k,.int .i64 n,.string s,.slice ao L cap] 238)):=(Below.refl _ _).alloc (Nat.le_refl _) _;have HC:=Hid.mk (fun w=>bHas k n s ao L cap 3 w);go_enter Tryz.func286,Tryz.ntmps286
 go_wp2_with fail
 refine(HC.out _).mono ?_;rintro e w1 ⟨rfl,hb1⟩;have B1:=A0.trans (hb1.mono (by simp));clear A0 hb1 HC;go_wp2;go_ret;exact⟨rfl,B1⟩
theorem nrRight (k n:Int) (s:ByteArray) (ao:Option Addr) (L cap:Nat) (w:World):Calls Tryz.prog 288 #[xx k n s (.slice ao L cap)] w fun e w'=>e=.returned (.bool (((((L:Int)==0)&&n==0)&&s.toList.isEmpty)))/\Below w.heap.size w w':=by
 have A0:Below w.heap.size w (w.alloc (.cells #[.int .i64 k,.int .i64 n,.string s,.slice ao L cap] 239)):=(Below.refl _ _).alloc (Nat.le_refl _) _;have HC:=Hid.mk (fun w=>bHas k n s ao L cap 0 w);go_enter Tryz.func288,Tryz.ntmps288
 go_wp2_with fail
 refine(HC.out _).mono ?_;rintro e w1 ⟨rfl,hb1⟩;have B1:=A0.trans (hb1.mono (by simp));clear A0 hb1 HC;go_wp2;go_ret;exact⟨rfl,B1⟩
theorem nfRight (k n:Int) (s:ByteArray) (ao:Option Addr) (L cap:Nat) (w:World):Calls Tryz.prog 290 #[xx k n s (.slice ao L cap)] w fun e w'=>e=.returned (.bool (((((L:Int)==0)&&n==0)&&s.toList.isEmpty)))/\Below w.heap.size w w':=by
 have A0:Below w.heap.size w (w.alloc (.cells #[.int .i64 k,.int .i64 n,.string s,.slice ao L cap] 240)):=(Below.refl _ _).alloc (Nat.le_refl _) _;have HC:=Hid.mk (fun w=>bHas k n s ao L cap 0 w);go_enter Tryz.func290,Tryz.ntmps290
 go_wp2_with fail
 refine(HC.out _).mono ?_;rintro e w1 ⟨rfl,hb1⟩;have B1:=A0.trans (hb1.mono (by simp));clear A0 hb1 HC;go_wp2;go_ret;exact⟨rfl,B1⟩
theorem idxRight (k n:Int) (s:ByteArray) (ao:Option Addr) (L cap:Nat) (w:World):Calls Tryz.prog 292 #[xx k n s (.slice ao L cap)] w fun e w'=>e=.returned (.bool (((((L:Int)==2)&&n==0)&&s.toList.isEmpty)))/\Below w.heap.size w w':=by
 have A0:Below w.heap.size w (w.alloc (.cells #[.int .i64 k,.int .i64 n,.string s,.slice ao L cap] 241)):=(Below.refl _ _).alloc (Nat.le_refl _) _;have HC:=Hid.mk (fun w=>bHas k n s ao L cap 2 w);go_enter Tryz.func292,Tryz.ntmps292
 go_wp2_with fail
 refine(HC.out _).mono ?_;rintro e w1 ⟨rfl,hb1⟩;have B1:=A0.trans (hb1.mono (by simp));clear A0 hb1 HC;go_wp2;go_ret;exact⟨rfl,B1⟩
theorem upRight (k n:Int) (s:ByteArray) (ao:Option Addr) (L cap:Nat) (w:World):Calls Tryz.prog 294 #[xx k n s (.slice ao L cap)] w fun e w'=>e=.returned (.bool (((((L:Int)==1)&&n==0)&&s.toList.isEmpty)))/\Below w.heap.size w w':=by
 have A0:Below w.heap.size w (w.alloc (.cells #[.int .i64 k,.int .i64 n,.string s,.slice ao L cap] 242)):=(Below.refl _ _).alloc (Nat.le_refl _) _;have HC:=Hid.mk (fun w=>bHas k n s ao L cap 1 w);go_enter Tryz.func294,Tryz.ntmps294
 go_wp2_with fail
 refine(HC.out _).mono ?_;rintro e w1 ⟨rfl,hb1⟩;have B1:=A0.trans (hb1.mono (by simp));clear A0 hb1 HC;go_wp2;go_ret;exact⟨rfl,B1⟩
theorem gsubRight (k n:Int) (s:ByteArray) (ao:Option Addr) (L cap:Nat) (w:World) (hs:s.size<=1048576):Calls Tryz.prog 296 #[xx k n s (.slice ao L cap)] w fun e w'=>e=.returned (.bool (((((L:Int)==2)&&n==0)&&rtB s)))/\Below w.heap.size w w':=by
 have A0:Below w.heap.size w (w.alloc (.cells #[.int .i64 k,.int .i64 n,.string s,.slice ao L cap] 243)):=(Below.refl _ _).alloc (Nat.le_refl _) _;have HC:=Hid.mk (fun w=>rHas k n s ao L cap 2 w hs);go_enter Tryz.func296,Tryz.ntmps296
 go_wp2_with fail
 refine(HC.out _).mono ?_;rintro e w1 ⟨rfl,hb1⟩;have B1:=A0.trans (hb1.mono (by simp));clear A0 hb1 HC;go_wp2;go_ret;exact⟨rfl,B1⟩
theorem strayRight (k n:Int) (s:ByteArray) (ao:Option Addr) (L cap:Nat) (w:World):Calls Tryz.prog 298 #[xx k n s (.slice ao L cap)] w fun e w'=>e=.returned (.bool (false))/\Below w.heap.size w w':=by
 have A0:Below w.heap.size w (w.alloc (.cells #[.int .i64 k,.int .i64 n,.string s,.slice ao L cap] 244)):=(Below.refl _ _).alloc (Nat.le_refl _) _;go_enter Tryz.func298,Tryz.ntmps298
 go_wp2;go_ret;exact⟨rfl,A0⟩
end Go.Proofs.YtkbijjkgfojchaaGreat
