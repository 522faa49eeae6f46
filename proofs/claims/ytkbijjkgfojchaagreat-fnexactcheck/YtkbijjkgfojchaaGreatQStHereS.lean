/- What a statement's kind asks: the model's l9Shape and l9Here. .. -/
import Derived.Test.YtkbijjkgfojchaaGreatQRun13
namespace Go.Proofs.YtkbijjkgfojchaaGreat
set_option maxHeartbeats 1000000
open Go.RowKit
set_option maxRecDepth 8000
theorem shape_any (k:Int) (s t:ByteArray) (xo:Option Addr) (nx xc:Nat) (ao:Option Addr) (na ac:Nat) (bo:Option Addr) (nb bc:Nat) (n:Int) (a b:Bool) (w:World) :
  Calls Tryz.prog 185 #[st k s t (.slice xo nx xc) (.slice ao na ac) (.slice bo nb bc),.int .i64 n,.bool a,.bool b] w fun e w'=>e=.returned (.bool (((nx:Int)==n)&&(a||(na:Int)==0)&&(b||(nb:Int)==0)))/\Below w.heap.size w w':=by
 have A0:Below w.heap.size w (w.alloc (.cells #[.int .i64 k,.string s,.string t,.slice xo nx xc,.slice ao na ac,.slice bo nb bc] 52)):=(Below.refl _ _).alloc (Nat.le_refl _) _;cases h1:((nx:Int)==n) with
 | false =>
  go_enter Tryz.func185,Tryz.ntmps185
  go_wp2;go_ret;exact⟨ret_tb (by simp),A0⟩
 | true =>
  cases a <;> cases b <;> cases h2:((na:Int)==0)
  all_goals
   go_enter Tryz.func185,Tryz.ntmps185
   go_wp2;go_ret;exact⟨ret_tb (by simp),A0⟩
theorem in15_any (n:Nat) (w:World):Calls Tryz.prog 132 #[.int .i64 n,.int .i64 1,.int .i64 5] w fun e w'=>e=.returned (.bool (decide (1<=n)&&decide (n<=5)))/\w'=w:=by
 by_cases h:1<=n
 ·have h':1<=(n:Int):=by omega
  rw[decide_eq_true h,Bool.true_and];by_cases h2:n<=5
  ·have h2':(n:Int)<=5:=by omega
   rw[decide_eq_true h2];go_enter Tryz.func132,Tryz.ntmps132
   go_wp2;go_ret;exact⟨rfl,rfl⟩
  ·have h2':¬ (n:Int)<=5:=by omega
   rw[decide_eq_false h2];go_enter Tryz.func132,Tryz.ntmps132
   go_wp2;go_ret;exact⟨rfl,rfl⟩
 ·have h':¬ 1<=(n:Int):=by omega
  rw[decide_eq_false h,Bool.false_and];go_enter Tryz.func132,Tryz.ntmps132
  go_wp2;go_ret;exact⟨rfl,rfl⟩
theorem hereS_2 (s t:ByteArray) (xo:Option Addr) (nx xc:Nat) (ao:Option Addr) (na ac:Nat) (bo:Option Addr) (nb bc:Nat) (w:World) (hs:s.size<=maxLen) (ht:t.size<=maxLen) :
  Calls Tryz.prog 173 #[st 2 s t (.slice xo nx xc) (.slice ao na ac) (.slice bo nb bc)] w fun e w'=>e=.returned (.bool (hereK 2 s t nx na nb))/\Below w.heap.size w w':=by
 have A0:Below w.heap.size w (w.alloc (.cells #[.int .i64 2,.string s,.string t,.slice xo nx xc,.slice ao na ac,.slice bo nb bc] 52)):=(Below.refl _ _).alloc (Nat.le_refl _) _;have HN:=Hid.mk (fun w=>specNameOk_any s w hs);have HM:=Hid.mk (fun w=>specNameOk_any t w ht);have HR:Hid (hereK 2 s t nx na nb=(nmB s&&t.toList.isEmpty&&nx==1&&na==0&&nb==0)):=by show _=_;simp[hereK]
 obtain⟨r,hr⟩:∃ r,hereK 2 s t nx na nb=r:=⟨_,rfl⟩;rw[hr] at HR |-;clear hr hs ht;clear HM;cases ht:t.toList.isEmpty with
 | false =>
  go_enter Tryz.func173,Tryz.ntmps173
  go_wp2;go_ret;exact⟨ret_tb (by rw[HR.out,Bool.eq_iff_iff];simp[ht] <;> omega),A0⟩
 | true =>
  generalize nmB s=q at *;cases q with
  | false =>
   go_enter Tryz.func173,Tryz.ntmps173
   go_wp2_with fail
   refine(HN.out _).mono ?_;rintro e w1 ⟨rfl,hbw1⟩;have Bw1:=A0.trans (hbw1.mono (by simp));have hcw1:=fun o=>hbw1.cell (p:=⟨w.heap.size,o,none⟩) (by simp);have hsw1:w.heap.size+1<=w1.heap.size:=(by have:=hbw1.size;simp at this;omega);clear hbw1;go_wp2;go_ret;exact⟨ret_tb (by rw[HR.out,Bool.eq_iff_iff];simp[ht] <;> omega),Bw1⟩
  | true =>
   go_enter Tryz.func173,Tryz.ntmps173
   go_wp2_with fail
   refine(HN.out _).mono ?_;rintro e w1 ⟨rfl,hbw1⟩;have Bw1:=A0.trans (hbw1.mono (by simp));have hcw1:=fun o=>hbw1.cell (p:=⟨w.heap.size,o,none⟩) (by simp);have hsw1:w.heap.size+1<=w1.heap.size:=(by have:=hbw1.size;simp at this;omega);clear hbw1;go_wp2_with fail
   refine(shape_any _ _ _ _ _ _ _ _ _ _ _ _ 1 false false _).mono ?_;rintro e w2 ⟨rfl,hbw2⟩;have Bw2:=Bw1.trans (hbw2.mono (by omega));have hcw2:=fun o=>hbw2.cell (p:=⟨w.heap.size,o,none⟩) (by show w.heap.size<_;omega);have hsw2:w.heap.size+1<=w2.heap.size:=Nat.le_trans hsw1 hbw2.size;clear hbw2;go_wp2;go_ret;exact⟨ret_tb (by rw[HR.out,Bool.eq_iff_iff];simp[ht] <;> omega),Bw2⟩
theorem hereS_3 (s t:ByteArray) (xo:Option Addr) (nx xc:Nat) (ao:Option Addr) (na ac:Nat) (bo:Option Addr) (nb bc:Nat) (w:World) (hs:s.size<=maxLen) (ht:t.size<=maxLen) :
  Calls Tryz.prog 173 #[st 3 s t (.slice xo nx xc) (.slice ao na ac) (.slice bo nb bc)] w fun e w'=>e=.returned (.bool (hereK 3 s t nx na nb))/\Below w.heap.size w w':=by
 have A0:Below w.heap.size w (w.alloc (.cells #[.int .i64 3,.string s,.string t,.slice xo nx xc,.slice ao na ac,.slice bo nb bc] 52)):=(Below.refl _ _).alloc (Nat.le_refl _) _;have HN:=Hid.mk (fun w=>specNameOk_any s w hs);have HM:=Hid.mk (fun w=>specNameOk_any t w ht);have HR:Hid (hereK 3 s t nx na nb=(nmB s&&t.toList.isEmpty&&nx==2&&na==0&&nb==0)):=by show _=_;simp[hereK]
 obtain⟨r,hr⟩:∃ r,hereK 3 s t nx na nb=r:=⟨_,rfl⟩;rw[hr] at HR |-;clear hr hs ht;clear HM;cases ht:t.toList.isEmpty with
 | false =>
  go_enter Tryz.func173,Tryz.ntmps173
  go_wp2;go_ret;exact⟨ret_tb (by rw[HR.out,Bool.eq_iff_iff];simp[ht] <;> omega),A0⟩
 | true =>
  generalize nmB s=q at *;cases q with
  | false =>
   go_enter Tryz.func173,Tryz.ntmps173
   go_wp2_with fail
   refine(HN.out _).mono ?_;rintro e w1 ⟨rfl,hbw1⟩;have Bw1:=A0.trans (hbw1.mono (by simp));have hcw1:=fun o=>hbw1.cell (p:=⟨w.heap.size,o,none⟩) (by simp);have hsw1:w.heap.size+1<=w1.heap.size:=(by have:=hbw1.size;simp at this;omega);clear hbw1;go_wp2;go_ret;exact⟨ret_tb (by rw[HR.out,Bool.eq_iff_iff];simp[ht] <;> omega),Bw1⟩
  | true =>
   go_enter Tryz.func173,Tryz.ntmps173
   go_wp2_with fail
   refine(HN.out _).mono ?_;rintro e w1 ⟨rfl,hbw1⟩;have Bw1:=A0.trans (hbw1.mono (by simp));have hcw1:=fun o=>hbw1.cell (p:=⟨w.heap.size,o,none⟩) (by simp);have hsw1:w.heap.size+1<=w1.heap.size:=(by have:=hbw1.size;simp at this;omega);clear hbw1;go_wp2_with fail
   refine(shape_any _ _ _ _ _ _ _ _ _ _ _ _ 2 false false _).mono ?_;rintro e w2 ⟨rfl,hbw2⟩;have Bw2:=Bw1.trans (hbw2.mono (by omega));have hcw2:=fun o=>hbw2.cell (p:=⟨w.heap.size,o,none⟩) (by show w.heap.size<_;omega);have hsw2:w.heap.size+1<=w2.heap.size:=Nat.le_trans hsw1 hbw2.size;clear hbw2;go_wp2;go_ret;exact⟨ret_tb (by rw[HR.out,Bool.eq_iff_iff];simp[ht] <;> omega),Bw2⟩
theorem hereS_11 (s t:ByteArray) (xo:Option Addr) (nx xc:Nat) (ao:Option Addr) (na ac:Nat) (bo:Option Addr) (nb bc:Nat) (w:World) (hs:s.size<=maxLen) (ht:t.size<=maxLen) :
  Calls Tryz.prog 173 #[st 11 s t (.slice xo nx xc) (.slice ao na ac) (.slice bo nb bc)] w fun e w'=>e=.returned (.bool (hereK 11 s t nx na nb))/\Below w.heap.size w w':=by
 have A0:Below w.heap.size w (w.alloc (.cells #[.int .i64 11,.string s,.string t,.slice xo nx xc,.slice ao na ac,.slice bo nb bc] 52)):=(Below.refl _ _).alloc (Nat.le_refl _) _;have HN:=Hid.mk (fun w=>specNameOk_any s w hs);have HM:=Hid.mk (fun w=>specNameOk_any t w ht);have HR:Hid (hereK 11 s t nx na nb=(nmB s&&t.toList.isEmpty&&nx==1&&na==0&&nb==0)):=by show _=_;simp[hereK]
 obtain⟨r,hr⟩:∃ r,hereK 11 s t nx na nb=r:=⟨_,rfl⟩;rw[hr] at HR |-;clear hr hs ht;clear HM;cases ht:t.toList.isEmpty with
 | false =>
  go_enter Tryz.func173,Tryz.ntmps173
  go_wp2;go_ret;exact⟨ret_tb (by rw[HR.out,Bool.eq_iff_iff];simp[ht] <;> omega),A0⟩
 | true =>
  generalize nmB s=q at *;cases q with
  | false =>
   go_enter Tryz.func173,Tryz.ntmps173
   go_wp2_with fail
   refine(HN.out _).mono ?_;rintro e w1 ⟨rfl,hbw1⟩;have Bw1:=A0.trans (hbw1.mono (by simp));have hcw1:=fun o=>hbw1.cell (p:=⟨w.heap.size,o,none⟩) (by simp);have hsw1:w.heap.size+1<=w1.heap.size:=(by have:=hbw1.size;simp at this;omega);clear hbw1;go_wp2;go_ret;exact⟨ret_tb (by rw[HR.out,Bool.eq_iff_iff];simp[ht] <;> omega),Bw1⟩
  | true =>
   go_enter Tryz.func173,Tryz.ntmps173
   go_wp2_with fail
   refine(HN.out _).mono ?_;rintro e w1 ⟨rfl,hbw1⟩;have Bw1:=A0.trans (hbw1.mono (by simp));have hcw1:=fun o=>hbw1.cell (p:=⟨w.heap.size,o,none⟩) (by simp);have hsw1:w.heap.size+1<=w1.heap.size:=(by have:=hbw1.size;simp at this;omega);clear hbw1;go_wp2_with fail
   refine(shape_any _ _ _ _ _ _ _ _ _ _ _ _ 1 false false _).mono ?_;rintro e w2 ⟨rfl,hbw2⟩;have Bw2:=Bw1.trans (hbw2.mono (by omega));have hcw2:=fun o=>hbw2.cell (p:=⟨w.heap.size,o,none⟩) (by show w.heap.size<_;omega);have hsw2:w.heap.size+1<=w2.heap.size:=Nat.le_trans hsw1 hbw2.size;clear hbw2;go_wp2;go_ret;exact⟨ret_tb (by rw[HR.out,Bool.eq_iff_iff];simp[ht] <;> omega),Bw2⟩
theorem hereS_4 (s t:ByteArray) (xo:Option Addr) (nx xc:Nat) (ao:Option Addr) (na ac:Nat) (bo:Option Addr) (nb bc:Nat) (w:World) (hs:s.size<=maxLen) (ht:t.size<=maxLen) :
  Calls Tryz.prog 173 #[st 4 s t (.slice xo nx xc) (.slice ao na ac) (.slice bo nb bc)] w fun e w'=>e=.returned (.bool (hereK 4 s t nx na nb))/\Below w.heap.size w w':=by
 have A0:Below w.heap.size w (w.alloc (.cells #[.int .i64 4,.string s,.string t,.slice xo nx xc,.slice ao na ac,.slice bo nb bc] 52)):=(Below.refl _ _).alloc (Nat.le_refl _) _;have HN:=Hid.mk (fun w=>specNameOk_any s w hs);have HM:=Hid.mk (fun w=>specNameOk_any t w ht);have HR:Hid (hereK 4 s t nx na nb=(s.toList.isEmpty&&t.toList.isEmpty&&nx==2&&na==0&&nb==0)):=by show _=_;simp[hereK]
 obtain⟨r,hr⟩:∃ r,hereK 4 s t nx na nb=r:=⟨_,rfl⟩;rw[hr] at HR |-;clear hr hs ht;clear HM HN;cases ht:t.toList.isEmpty with
 | false =>
  go_enter Tryz.func173,Tryz.ntmps173
  go_wp2;go_ret;exact⟨ret_tb (by rw[HR.out,Bool.eq_iff_iff];simp[ht] <;> omega),A0⟩
 | true =>
  cases hs:s.toList.isEmpty with
  | false =>
   go_enter Tryz.func173,Tryz.ntmps173
   go_wp2;go_ret;exact⟨ret_tb (by rw[HR.out,Bool.eq_iff_iff];simp[ht,hs] <;> omega),A0⟩
  | true =>
   go_enter Tryz.func173,Tryz.ntmps173
   go_wp2_with fail
   refine(shape_any _ _ _ _ _ _ _ _ _ _ _ _ 2 false false _).mono ?_;rintro e w1 ⟨rfl,hbw1⟩;have Bw1:=A0.trans (hbw1.mono (by simp));have hcw1:=fun o=>hbw1.cell (p:=⟨w.heap.size,o,none⟩) (by simp);have hsw1:w.heap.size+1<=w1.heap.size:=(by have:=hbw1.size;simp at this;omega);clear hbw1;go_wp2;go_ret;exact⟨ret_tb (by rw[HR.out,Bool.eq_iff_iff];simp[ht,hs] <;> omega),Bw1⟩
theorem hereS_5 (s t:ByteArray) (xo:Option Addr) (nx xc:Nat) (ao:Option Addr) (na ac:Nat) (bo:Option Addr) (nb bc:Nat) (w:World) (hs:s.size<=maxLen) (ht:t.size<=maxLen) :
  Calls Tryz.prog 173 #[st 5 s t (.slice xo nx xc) (.slice ao na ac) (.slice bo nb bc)] w fun e w'=>e=.returned (.bool (hereK 5 s t nx na nb))/\Below w.heap.size w w':=by
 have A0:Below w.heap.size w (w.alloc (.cells #[.int .i64 5,.string s,.string t,.slice xo nx xc,.slice ao na ac,.slice bo nb bc] 52)):=(Below.refl _ _).alloc (Nat.le_refl _) _;have HN:=Hid.mk (fun w=>specNameOk_any s w hs);have HM:=Hid.mk (fun w=>specNameOk_any t w ht);have HR:Hid (hereK 5 s t nx na nb=(s.toList.isEmpty&&t.toList.isEmpty&&nx==1)):=by show _=_;simp[hereK]
 obtain⟨r,hr⟩:∃ r,hereK 5 s t nx na nb=r:=⟨_,rfl⟩;rw[hr] at HR |-;clear hr hs ht;clear HM HN;cases ht:t.toList.isEmpty with
 | false =>
  go_enter Tryz.func173,Tryz.ntmps173
  go_wp2;go_ret;exact⟨ret_tb (by rw[HR.out,Bool.eq_iff_iff];simp[ht] <;> omega),A0⟩
 | true =>
  cases hs:s.toList.isEmpty with
  | false =>
   go_enter Tryz.func173,Tryz.ntmps173
   go_wp2;go_ret;exact⟨ret_tb (by rw[HR.out,Bool.eq_iff_iff];simp[ht,hs] <;> omega),A0⟩
  | true =>
   go_enter Tryz.func173,Tryz.ntmps173
   go_wp2_with fail
   refine(shape_any _ _ _ _ _ _ _ _ _ _ _ _ 1 true true _).mono ?_;rintro e w1 ⟨rfl,hbw1⟩;have Bw1:=A0.trans (hbw1.mono (by simp));have hcw1:=fun o=>hbw1.cell (p:=⟨w.heap.size,o,none⟩) (by simp);have hsw1:w.heap.size+1<=w1.heap.size:=(by have:=hbw1.size;simp at this;omega);clear hbw1;go_wp2;go_ret;exact⟨ret_tb (by rw[HR.out,Bool.eq_iff_iff];simp[ht,hs] <;> omega),Bw1⟩
theorem hereS_6 (s t:ByteArray) (xo:Option Addr) (nx xc:Nat) (ao:Option Addr) (na ac:Nat) (bo:Option Addr) (nb bc:Nat) (w:World) (hs:s.size<=maxLen) (ht:t.size<=maxLen) :
  Calls Tryz.prog 173 #[st 6 s t (.slice xo nx xc) (.slice ao na ac) (.slice bo nb bc)] w fun e w'=>e=.returned (.bool (hereK 6 s t nx na nb))/\Below w.heap.size w w':=by
 have A0:Below w.heap.size w (w.alloc (.cells #[.int .i64 6,.string s,.string t,.slice xo nx xc,.slice ao na ac,.slice bo nb bc] 52)):=(Below.refl _ _).alloc (Nat.le_refl _) _;have HN:=Hid.mk (fun w=>specNameOk_any s w hs);have HM:=Hid.mk (fun w=>specNameOk_any t w ht);have HR:Hid (hereK 6 s t nx na nb=(s.toList.isEmpty&&t.toList.isEmpty&&nx==1&&nb==0)):=by show _=_;simp[hereK]
 obtain⟨r,hr⟩:∃ r,hereK 6 s t nx na nb=r:=⟨_,rfl⟩;rw[hr] at HR |-;clear hr hs ht;clear HM HN;cases ht:t.toList.isEmpty with
 | false =>
  go_enter Tryz.func173,Tryz.ntmps173
  go_wp2;go_ret;exact⟨ret_tb (by rw[HR.out,Bool.eq_iff_iff];simp[ht] <;> omega),A0⟩
 | true =>
  cases hs:s.toList.isEmpty with
  | false =>
   go_enter Tryz.func173,Tryz.ntmps173
   go_wp2;go_ret;exact⟨ret_tb (by rw[HR.out,Bool.eq_iff_iff];simp[ht,hs] <;> omega),A0⟩
  | true =>
   go_enter Tryz.func173,Tryz.ntmps173
   go_wp2_with fail
   refine(shape_any _ _ _ _ _ _ _ _ _ _ _ _ 1 true false _).mono ?_;rintro e w1 ⟨rfl,hbw1⟩;have Bw1:=A0.trans (hbw1.mono (by simp));have hcw1:=fun o=>hbw1.cell (p:=⟨w.heap.size,o,none⟩) (by simp);have hsw1:w.heap.size+1<=w1.heap.size:=(by have:=hbw1.size;simp at this;omega);clear hbw1;go_wp2;go_ret;exact⟨ret_tb (by rw[HR.out,Bool.eq_iff_iff];simp[ht,hs] <;> omega),Bw1⟩
theorem hereS_8 (s t:ByteArray) (xo:Option Addr) (nx xc:Nat) (ao:Option Addr) (na ac:Nat) (bo:Option Addr) (nb bc:Nat) (w:World) (hs:s.size<=maxLen) (ht:t.size<=maxLen) :
  Calls Tryz.prog 173 #[st 8 s t (.slice xo nx xc) (.slice ao na ac) (.slice bo nb bc)] w fun e w'=>e=.returned (.bool (hereK 8 s t nx na nb))/\Below w.heap.size w w':=by
 have A0:Below w.heap.size w (w.alloc (.cells #[.int .i64 8,.string s,.string t,.slice xo nx xc,.slice ao na ac,.slice bo nb bc] 52)):=(Below.refl _ _).alloc (Nat.le_refl _) _;have HN:=Hid.mk (fun w=>specNameOk_any s w hs);have HM:=Hid.mk (fun w=>specNameOk_any t w ht);have HR:Hid (hereK 8 s t nx na nb=(s.toList.isEmpty&&t.toList.isEmpty&&nx==0&&na==0&&nb==0)):=by show _=_;simp[hereK]
 obtain⟨r,hr⟩:∃ r,hereK 8 s t nx na nb=r:=⟨_,rfl⟩;rw[hr] at HR |-;clear hr hs ht;clear HM HN;cases ht:t.toList.isEmpty with
 | false =>
  go_enter Tryz.func173,Tryz.ntmps173
  go_wp2;go_ret;exact⟨ret_tb (by rw[HR.out,Bool.eq_iff_iff];simp[ht] <;> omega),A0⟩
 | true =>
  cases hs:s.toList.isEmpty with
  | false =>
   go_enter Tryz.func173,Tryz.ntmps173
   go_wp2;go_ret;exact⟨ret_tb (by rw[HR.out,Bool.eq_iff_iff];simp[ht,hs] <;> omega),A0⟩
  | true =>
   go_enter Tryz.func173,Tryz.ntmps173
   go_wp2_with fail
   refine(shape_any _ _ _ _ _ _ _ _ _ _ _ _ 0 false false _).mono ?_;rintro e w1 ⟨rfl,hbw1⟩;have Bw1:=A0.trans (hbw1.mono (by simp));have hcw1:=fun o=>hbw1.cell (p:=⟨w.heap.size,o,none⟩) (by simp);have hsw1:w.heap.size+1<=w1.heap.size:=(by have:=hbw1.size;simp at this;omega);clear hbw1;go_wp2;go_ret;exact⟨ret_tb (by rw[HR.out,Bool.eq_iff_iff];simp[ht,hs] <;> omega),Bw1⟩
theorem hereS_9 (s t:ByteArray) (xo:Option Addr) (nx xc:Nat) (ao:Option Addr) (na ac:Nat) (bo:Option Addr) (nb bc:Nat) (w:World) (hs:s.size<=maxLen) (ht:t.size<=maxLen) :
  Calls Tryz.prog 173 #[st 9 s t (.slice xo nx xc) (.slice ao na ac) (.slice bo nb bc)] w fun e w'=>e=.returned (.bool (hereK 9 s t nx na nb))/\Below w.heap.size w w':=by
 have A0:Below w.heap.size w (w.alloc (.cells #[.int .i64 9,.string s,.string t,.slice xo nx xc,.slice ao na ac,.slice bo nb bc] 52)):=(Below.refl _ _).alloc (Nat.le_refl _) _;have HN:=Hid.mk (fun w=>specNameOk_any s w hs);have HM:=Hid.mk (fun w=>specNameOk_any t w ht);have HR:Hid (hereK 9 s t nx na nb=(s.toList.isEmpty&&t.toList.isEmpty&&nx==1&&na==0&&nb==0)):=by show _=_;simp[hereK]
 obtain⟨r,hr⟩:∃ r,hereK 9 s t nx na nb=r:=⟨_,rfl⟩;rw[hr] at HR |-;clear hr hs ht;clear HM HN;cases ht:t.toList.isEmpty with
 | false =>
  go_enter Tryz.func173,Tryz.ntmps173
  go_wp2;go_ret;exact⟨ret_tb (by rw[HR.out,Bool.eq_iff_iff];simp[ht] <;> omega),A0⟩
 | true =>
  cases hs:s.toList.isEmpty with
  | false =>
   go_enter Tryz.func173,Tryz.ntmps173
   go_wp2;go_ret;exact⟨ret_tb (by rw[HR.out,Bool.eq_iff_iff];simp[ht,hs] <;> omega),A0⟩
  | true =>
   go_enter Tryz.func173,Tryz.ntmps173
   go_wp2_with fail
   refine(shape_any _ _ _ _ _ _ _ _ _ _ _ _ 1 false false _).mono ?_;rintro e w1 ⟨rfl,hbw1⟩;have Bw1:=A0.trans (hbw1.mono (by simp));have hcw1:=fun o=>hbw1.cell (p:=⟨w.heap.size,o,none⟩) (by simp);have hsw1:w.heap.size+1<=w1.heap.size:=(by have:=hbw1.size;simp at this;omega);clear hbw1;go_wp2;go_ret;exact⟨ret_tb (by rw[HR.out,Bool.eq_iff_iff];simp[ht,hs] <;> omega),Bw1⟩
theorem hereS_10 (s t:ByteArray) (xo:Option Addr) (nx xc:Nat) (ao:Option Addr) (na ac:Nat) (bo:Option Addr) (nb bc:Nat) (w:World) (hs:s.size<=maxLen) (ht:t.size<=maxLen) :
  Calls Tryz.prog 173 #[st 10 s t (.slice xo nx xc) (.slice ao na ac) (.slice bo nb bc)] w fun e w'=>e=.returned (.bool (hereK 10 s t nx na nb))/\Below w.heap.size w w':=by
 have A0:Below w.heap.size w (w.alloc (.cells #[.int .i64 10,.string s,.string t,.slice xo nx xc,.slice ao na ac,.slice bo nb bc] 52)):=(Below.refl _ _).alloc (Nat.le_refl _) _;have HN:=Hid.mk (fun w=>specNameOk_any s w hs);have HM:=Hid.mk (fun w=>specNameOk_any t w ht);have HR:Hid (hereK 10 s t nx na nb=(s.toList.isEmpty&&t.toList.isEmpty&&nx==1&&na==0&&nb==0)):=by show _=_;simp[hereK]
 obtain⟨r,hr⟩:∃ r,hereK 10 s t nx na nb=r:=⟨_,rfl⟩;rw[hr] at HR |-;clear hr hs ht;clear HM HN;cases ht:t.toList.isEmpty with
 | false =>
  go_enter Tryz.func173,Tryz.ntmps173
  go_wp2;go_ret;exact⟨ret_tb (by rw[HR.out,Bool.eq_iff_iff];simp[ht] <;> omega),A0⟩
 | true =>
  cases hs:s.toList.isEmpty with
  | false =>
   go_enter Tryz.func173,Tryz.ntmps173
   go_wp2;go_ret;exact⟨ret_tb (by rw[HR.out,Bool.eq_iff_iff];simp[ht,hs] <;> omega),A0⟩
  | true =>
   go_enter Tryz.func173,Tryz.ntmps173
   go_wp2_with fail
   refine(shape_any _ _ _ _ _ _ _ _ _ _ _ _ 1 false false _).mono ?_;rintro e w1 ⟨rfl,hbw1⟩;have Bw1:=A0.trans (hbw1.mono (by simp));have hcw1:=fun o=>hbw1.cell (p:=⟨w.heap.size,o,none⟩) (by simp);have hsw1:w.heap.size+1<=w1.heap.size:=(by have:=hbw1.size;simp at this;omega);clear hbw1;go_wp2;go_ret;exact⟨ret_tb (by rw[HR.out,Bool.eq_iff_iff];simp[ht,hs] <;> omega),Bw1⟩
theorem hereS_1 (s t:ByteArray) (xo:Option Addr) (nx xc:Nat) (ao:Option Addr) (na ac:Nat) (bo:Option Addr) (nb bc:Nat) (w:World) (hs:s.size<=maxLen) (ht:t.size<=maxLen) :
  Calls Tryz.prog 173 #[st 1 s t (.slice xo nx xc) (.slice ao na ac) (.slice bo nb bc)] w fun e w'=>e=.returned (.bool (hereK 1 s t nx na nb))/\Below w.heap.size w w':=by
 have A0:Below w.heap.size w (w.alloc (.cells #[.int .i64 1,.string s,.string t,.slice xo nx xc,.slice ao na ac,.slice bo nb bc] 52)):=(Below.refl _ _).alloc (Nat.le_refl _) _;have HN:=Hid.mk (fun w=>specNameOk_any s w hs);have HM:=Hid.mk (fun w=>specNameOk_any t w ht);have HR:Hid (hereK 1 s t nx na nb=(s.toList.isEmpty&&t.toList.isEmpty&&decide (1<=nx)&&decide (nx<=5)&&na==0&&nb==0)):=by show _=_;simp[hereK]
 obtain⟨r,hr⟩:∃ r,hereK 1 s t nx na nb=r:=⟨_,rfl⟩;rw[hr] at HR |-;clear hr hs ht;clear HM HN;have HI:=Hid.mk (fun w=>in15_any nx w);cases ht:t.toList.isEmpty with
 | false =>
  go_enter Tryz.func173,Tryz.ntmps173
  go_wp2;go_ret;exact⟨ret_tb (by rw[HR.out,Bool.eq_iff_iff];simp[ht] <;> omega),A0⟩
 | true =>
  cases hi:(decide (1<=nx)&&decide (nx<=5)) with
  | false =>
   rw[hi] at HI;go_enter Tryz.func173,Tryz.ntmps173
   go_wp2_with fail
   refine(HI.out _).mono ?_;rintro e w1 ⟨rfl,hw1⟩;subst hw1;go_wp2;go_ret;exact⟨ret_tb (by rw[HR.out,Bool.and_assoc (s.toList.isEmpty&&t.toList.isEmpty),hi];simp),A0⟩
  | true =>
   rw[hi] at HI;cases hs:s.toList.isEmpty <;> cases h2:((na:Int)==0)
   all_goals
    go_enter Tryz.func173,Tryz.ntmps173
    go_wp2_with fail
    refine(HI.out _).mono ?_;rintro e w1 ⟨rfl,hw1⟩;subst hw1;go_wp2;go_ret;exact⟨ret_tb (by rw[HR.out,Bool.and_assoc (s.toList.isEmpty&&t.toList.isEmpty),hi,Bool.eq_iff_iff];simp[ht,hs] at*<;> omega),A0⟩
theorem hereS_7 (s t:ByteArray) (xo:Option Addr) (nx xc:Nat) (ao:Option Addr) (na ac:Nat) (bo:Option Addr) (nb bc:Nat) (w:World) (hs:s.size<=maxLen) (ht:t.size<=maxLen) :
  Calls Tryz.prog 173 #[st 7 s t (.slice xo nx xc) (.slice ao na ac) (.slice bo nb bc)] w fun e w'=>e=.returned (.bool (hereK 7 s t nx na nb))/\Below w.heap.size w w':=by
 have A0:Below w.heap.size w (w.alloc (.cells #[.int .i64 7,.string s,.string t,.slice xo nx xc,.slice ao na ac,.slice bo nb bc] 52)):=(Below.refl _ _).alloc (Nat.le_refl _) _;have HN:=Hid.mk (fun w=>specNameOk_any s w hs);have HM:=Hid.mk (fun w=>specNameOk_any t w ht);have HR:Hid (hereK 7 s t nx na nb=(nmB s&&nmB t&&nx==0&&nb==0)):=by show _=_;simp[hereK]
 obtain⟨r,hr⟩:∃ r,hereK 7 s t nx na nb=r:=⟨_,rfl⟩;rw[hr] at HR |-;clear hr hs ht;generalize nmB s=q at *;generalize nmB t=q2 at *;cases q with
 | false =>
  go_enter Tryz.func173,Tryz.ntmps173
  go_wp2_with fail
  refine(HN.out _).mono ?_;rintro e w1 ⟨rfl,hbw1⟩;have Bw1:=A0.trans (hbw1.mono (by simp));have hcw1:=fun o=>hbw1.cell (p:=⟨w.heap.size,o,none⟩) (by simp);have hsw1:w.heap.size+1<=w1.heap.size:=(by have:=hbw1.size;simp at this;omega);clear hbw1;go_wp2;go_ret;exact⟨ret_tb (by rw[HR.out,Bool.eq_iff_iff];simp[] <;> omega),Bw1⟩
 | true =>
  cases q2 with
  | false =>
   go_enter Tryz.func173,Tryz.ntmps173
   go_wp2_with fail
   refine(HN.out _).mono ?_;rintro e w1 ⟨rfl,hbw1⟩;have Bw1:=A0.trans (hbw1.mono (by simp));have hcw1:=fun o=>hbw1.cell (p:=⟨w.heap.size,o,none⟩) (by simp);have hsw1:w.heap.size+1<=w1.heap.size:=(by have:=hbw1.size;simp at this;omega);clear hbw1;go_wp2_with fail
   refine(HM.out _).mono ?_;rintro e w2 ⟨rfl,hbw2⟩;have Bw2:=Bw1.trans (hbw2.mono (by omega));have hcw2:=fun o=>hbw2.cell (p:=⟨w.heap.size,o,none⟩) (by show w.heap.size<_;omega);have hsw2:w.heap.size+1<=w2.heap.size:=Nat.le_trans hsw1 hbw2.size;clear hbw2;go_wp2;go_ret;exact⟨ret_tb (by rw[HR.out,Bool.eq_iff_iff];simp[] <;> omega),Bw2⟩
  | true =>
   go_enter Tryz.func173,Tryz.ntmps173
   go_wp2_with fail
   refine(HN.out _).mono ?_;rintro e w1 ⟨rfl,hbw1⟩;have Bw1:=A0.trans (hbw1.mono (by simp));have hcw1:=fun o=>hbw1.cell (p:=⟨w.heap.size,o,none⟩) (by simp);have hsw1:w.heap.size+1<=w1.heap.size:=(by have:=hbw1.size;simp at this;omega);clear hbw1;go_wp2_with fail
   refine(HM.out _).mono ?_;rintro e w2 ⟨rfl,hbw2⟩;have Bw2:=Bw1.trans (hbw2.mono (by omega));have hcw2:=fun o=>hbw2.cell (p:=⟨w.heap.size,o,none⟩) (by show w.heap.size<_;omega);have hsw2:w.heap.size+1<=w2.heap.size:=Nat.le_trans hsw1 hbw2.size;clear hbw2;go_wp2_with fail
   refine(shape_any _ _ _ _ _ _ _ _ _ _ _ _ 0 true false _).mono ?_;rintro e w3 ⟨rfl,hbw3⟩;have Bw3:=Bw2.trans (hbw3.mono (by omega));have hcw3:=fun o=>hbw3.cell (p:=⟨w.heap.size,o,none⟩) (by show w.heap.size<_;omega);have hsw3:w.heap.size+1<=w3.heap.size:=Nat.le_trans hsw2 hbw3.size;clear hbw3;go_wp2;go_ret;exact⟨ret_tb (by rw[HR.out,Bool.eq_iff_iff];simp[] <;> omega),Bw3⟩
theorem hereS_0 (k:Int) (s t:ByteArray) (xo:Option Addr) (nx xc:Nat) (ao:Option Addr) (na ac:Nat) (bo:Option Addr) (nb bc:Nat) (w:World) (hk:∀ j:Int,1<=j->j<=12->k≠j) :
  Calls Tryz.prog 173 #[st k s t (.slice xo nx xc) (.slice ao na ac) (.slice bo nb bc)] w fun e w'=>e=.returned (.bool false)/\Below w.heap.size w w':=by
 have A0:Below w.heap.size w (w.alloc (.cells #[.int .i64 k,.string s,.string t,.slice xo nx xc,.slice ao na ac,.slice bo nb bc] 52)):=(Below.refl _ _).alloc (Nat.le_refl _) _;have k1:(k==1)=false:=beq_eq_false_iff_ne.2 (hk 1 (by omega) (by omega));have k2:(k==2)=false:=beq_eq_false_iff_ne.2 (hk 2 (by omega) (by omega));have k3:(k==3)=false:=beq_eq_false_iff_ne.2 (hk 3 (by omega) (by omega));have k4:(k==4)=false:=beq_eq_false_iff_ne.2 (hk 4 (by omega) (by omega));have k5:(k==5)=false:=beq_eq_false_iff_ne.2 (hk 5 (by omega) (by omega));have k6:(k==6)=false:=beq_eq_false_iff_ne.2 (hk 6 (by omega) (by omega));have k7:(k==7)=false:=beq_eq_false_iff_ne.2 (hk 7 (by omega) (by omega));have k8:(k==8)=false:=beq_eq_false_iff_ne.2 (hk 8 (by omega) (by omega));have k9:(k==9)=false:=beq_eq_false_iff_ne.2 (hk 9 (by omega) (by omega));have k10:(k==10)=false:=beq_eq_false_iff_ne.2 (hk 10 (by omega) (by omega));have k11:(k==11)=false:=beq_eq_false_iff_ne.2 (hk 11 (by omega) (by omega));have k12:(k==12)=false:=beq_eq_false_iff_ne.2 (hk 12 (by omega) (by omega));have k7':(k != 7)=true:=by simp[bne,k7]
 clear hk;cases ht:t.toList.isEmpty with
 | false =>
  go_enter Tryz.func173,Tryz.ntmps173
  go_wp2;go_ret;exact⟨rfl,A0⟩
 | true =>
  go_enter Tryz.func173,Tryz.ntmps173
  go_wp2;go_ret;exact⟨rfl,A0⟩
theorem hereS_12 (s t:ByteArray) (x:List Ex) (B:Nat->Prop) (xo:Option Addr) (xc:Nat) (ao:Option Addr) (na ac:Nat) (bo:Option Addr) (nb bc:Nat) (w:World) (h:El w B x (.slice xo x.length xc)) :
  Calls Tryz.prog 173 #[st 12 s t (.slice xo x.length xc) (.slice ao na ac) (.slice bo nb bc)] w fun e w'=>e=.returned (.bool (hereK 12 s t x.length na nb&&callB 12 x))/\Below w.heap.size w w':=by
 have A0:Below w.heap.size w (w.alloc (.cells #[.int .i64 12,.string s,.string t,.slice xo x.length xc,.slice ao na ac,.slice bo nb bc] 52)):=(Below.refl _ _).alloc (Nat.le_refl _) _;have HR:Hid ((hereK 12 s t x.length na nb&&callB 12 x)=((s.toList.isEmpty&&t.toList.isEmpty&&x.length==1&&na==0&&nb==0)&&x.all fun e=>e.k==11)):=by show _=_;simp[hereK,callB]
 obtain⟨r,hr⟩:∃ r,(hereK 12 s t x.length na nb&&callB 12 x)=r:=⟨_,rfl⟩;rw[hr] at HR |-;clear hr;have HH:=Hid.mk h;clear h;cases ht:t.toList.isEmpty with
 | false =>
  go_enter Tryz.func173,Tryz.ntmps173
  go_wp2;go_ret;exact⟨ret_tb (by rw[HR.out,Bool.eq_iff_iff];simp[ht] <;> omega),A0⟩
 | true =>
  cases hs:s.toList.isEmpty with
  | false =>
   go_enter Tryz.func173,Tryz.ntmps173
   go_wp2;go_ret;exact⟨ret_tb (by rw[HR.out,Bool.eq_iff_iff];simp[ht,hs] <;> omega),A0⟩
  | true =>
   have HS:=Hid.mk (fun w=>shape_any 12 s t xo x.length xc ao na ac bo nb bc 1 false false w);by_cases hc:x.length=1/\na=0/\nb=0
   ·obtain⟨h1,h2,h3⟩:=hc
    subst h2 h3;obtain⟨y,rfl⟩:=List.length_eq_one_iff.1 h1;have HR2:Hid (r=(y.k==11)):=(by show _=_;rw[HR.out];simp[ht,hs]);have e1:((([y].length:Nat):Int)==1&&(false||((0:Nat):Int)==0)&&(false||((0:Nat):Int)==0))=true:=(by simp);rw[e1] at HS;obtain⟨b,off,V,rfl,hel⟩:=HH.out.elems (by simp);obtain⟨h3',-,-⟩:=hel 0 (by simp);obtain⟨k0,-,-,-⟩:=h3';have hlt:=World.block_lt_of_cell? w _ k0;simp at k0;clear HR hel e1 HH h1;obtain⟨yk,hyk⟩:∃ q,y.k=q:=⟨_,rfl⟩;rw[hyk] at k0 HR2;simp only[List.length_singleton] at *;go_enter Tryz.func173,Tryz.ntmps173
    go_wp2_with fail
    refine(HS.out _).mono ?_;rintro e w1 ⟨rfl,hb1⟩;have B1:=A0.trans (hb1.mono (by simp));have hc1:=fun o=>hb1.cell (p:=⟨w.heap.size,o,none⟩) (by simp);have k1:w1.cell? ⟨b,off,none⟩=some (.int .i64 yk):=(by rw[B1.cell (p:=⟨b,off,none⟩) hlt];exact k0);clear hb1 HS A0;go_wp2;go_ret;exact⟨ret_tb HR2.out.symm,B1⟩
   ·have e1:(((x.length:Nat):Int)==1&&(false||(na:Int)==0)&&(false||(nb:Int)==0))=false:=by
     rw[Bool.eq_false_iff];intro hq;apply hc
     simp at hq;omega
    rw[e1] at HS;have HR2:Hid (r=false):=by
     show _=_
     rw[HR.out,Bool.eq_false_iff];intro hq;apply hc
     simp only[Bool.and_eq_true,beq_iff_eq] at hq;exact⟨hq.1.1.1.2,hq.1.1.2,hq.1.2⟩
    clear HR e1 HH hc;go_enter Tryz.func173,Tryz.ntmps173
    go_wp2_with fail
    refine(HS.out _).mono ?_;rintro e w1 ⟨rfl,hb1⟩;have B1:=A0.trans (hb1.mono (by simp));clear hb1 HS A0;go_wp2;go_ret;exact⟨ret_tb HR2.out.symm,B1⟩
theorem l9Here_any (t:St) (B:Nat->Prop) (xo:Option Addr) (xc:Nat) (ao:Option Addr) (ac:Nat) (bo:Option Addr) (bc:Nat) (w:World) (h:El w B t.x (.slice xo t.x.length xc)) (hs:t.s.size<=maxLen) (ht:t.t.size<=maxLen) :
  Calls Tryz.prog 173 #[st t.k t.s t.t (.slice xo t.x.length xc) (.slice ao t.a.length ac) (.slice bo t.b.length bc)] w fun e w'=>e=.returned (.bool (hereK t.k t.s t.t t.x.length t.a.length t.b.length&&callB t.k t.x))/\Below w.heap.size w w':=by
 obtain⟨k,hk⟩:∃ k,t.k=k:=⟨_,rfl⟩;rw[hk];have hcb:k≠12->callB k t.x=true:=by intro h;simp[callB,h]
 by_cases k1:k=1
 ·subst k1
  rw[hcb (by decide),Bool.and_true];exact hereS_1 _ _ _ _ _ _ _ _ _ _ _ w hs ht
 by_cases k2:k=2
 ·subst k2
  rw[hcb (by decide),Bool.and_true];exact hereS_2 _ _ _ _ _ _ _ _ _ _ _ w hs ht
 by_cases k3:k=3
 ·subst k3
  rw[hcb (by decide),Bool.and_true];exact hereS_3 _ _ _ _ _ _ _ _ _ _ _ w hs ht
 by_cases k4:k=4
 ·subst k4
  rw[hcb (by decide),Bool.and_true];exact hereS_4 _ _ _ _ _ _ _ _ _ _ _ w hs ht
 by_cases k5:k=5
 ·subst k5
  rw[hcb (by decide),Bool.and_true];exact hereS_5 _ _ _ _ _ _ _ _ _ _ _ w hs ht
 by_cases k6:k=6
 ·subst k6
  rw[hcb (by decide),Bool.and_true];exact hereS_6 _ _ _ _ _ _ _ _ _ _ _ w hs ht
 by_cases k7:k=7
 ·subst k7
  rw[hcb (by decide),Bool.and_true];exact hereS_7 _ _ _ _ _ _ _ _ _ _ _ w hs ht
 by_cases k8:k=8
 ·subst k8
  rw[hcb (by decide),Bool.and_true];exact hereS_8 _ _ _ _ _ _ _ _ _ _ _ w hs ht
 by_cases k9:k=9
 ·subst k9
  rw[hcb (by decide),Bool.and_true];exact hereS_9 _ _ _ _ _ _ _ _ _ _ _ w hs ht
 by_cases k10:k=10
 ·subst k10
  rw[hcb (by decide),Bool.and_true];exact hereS_10 _ _ _ _ _ _ _ _ _ _ _ w hs ht
 by_cases k11:k=11
 ·subst k11
  rw[hcb (by decide),Bool.and_true];exact hereS_11 _ _ _ _ _ _ _ _ _ _ _ w hs ht
 by_cases k12:k=12
 ·subst k12
  exact hereS_12 _ _ _ B _ _ _ _ _ _ _ _ w h
 have hz:hereK k t.s t.t t.x.length t.a.length t.b.length=false:=by simp[hereK,k1,k2,k3,k4,k5,k6,k7,k8,k9,k10,k11,k12]
 rw[hz,Bool.false_and];exact hereS_0 k _ _ _ _ _ _ _ _ _ _ _ w (by intro j h1 h2 h3;omega)
end Go.Proofs.YtkbijjkgfojchaaGreat
