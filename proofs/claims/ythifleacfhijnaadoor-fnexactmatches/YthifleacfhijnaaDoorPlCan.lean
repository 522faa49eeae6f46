/- Whether an expression can match a text at all: the program's. -/
import Derived.Test.YthifleacfhijnaaDoorRexRoom
namespace Go.Proofs.YthifleacfhijnaaDoor
open Go.RowKit
set_option maxRecDepth 8000

attribute [local go_sem] Oper.semAt_some

theorem canMatch_any (t : Tr) (B : Nat → Prop) (v : Value) (s : ByteArray) (w : World) (h : Rl w B t.l v) (hs : t.s.size ≤ maxLen) :
    Calls Tryd.prog 39 #[rx t.k t.s v, .string s] w fun e w' => e = .returned (.bool (decide (s.size ≤ 200) && okR t)) ∧ Below w.heap.size w w' := by
  have HK := Hid.mk (fun (w' : World) (hb : Below w.heap.size w w') => implRexOk_any t B v w' (h.grow hb) hs)
  obtain ⟨ao, cap, rfl, -⟩ := h.len
  have A0 : Below w.heap.size w (w.alloc (.cells #[.int .i64 t.k, .string t.s, .slice ao t.l.length cap] 26)) := (Below.refl _ _).alloc (Nat.le_refl _) _
  have RB : Below w.heap.size w w := Below.refl _ _
  clear h hs
  by_cases h2 : s.size ≤ 200
  · have hi : ((s.size : Nat) : Int) ≤ 200 := by omega
    rw [decide_eq_true h2, Bool.true_and]
    clear h2
    go_enter Tryd.func39, Tryd.ntmps39
    go_wp2_with fail
    refine (HK.out _ (by first | exact RB | exact A0)).mono ?_
    rintro e w1 ⟨rfl, hb1⟩
    have B1 : Below w.heap.size w w1 := by first | exact hb1 | exact A0.trans (hb1.mono (by simp))
    clear hb1 HK A0 RB
    go_wp2
    go_ret
    exact ⟨rfl, B1⟩
  · have hi : ¬ ((s.size : Nat) : Int) ≤ 200 := by omega
    rw [decide_eq_false h2, Bool.false_and]
    clear h2 HK
    go_enter Tryd.func39, Tryd.ntmps39
    go_wp2
    go_ret
    exact ⟨rfl, by first | exact RB | exact A0⟩
end Go.Proofs.YthifleacfhijnaaDoor
