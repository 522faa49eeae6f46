/- A scope in which the run jumps to several labels: what holds at every jump to a label, and a measure that every pass lowers. A scope with six labels. Blanks and remarks passed over: the program's passOver, from label to label. The library's error stays there. The program's Lex, from label to label. -/
import Derived.Test.YtapcbblfcmdbnaaDoorBytes
import Derived.Scope
import Derived.WalkMore
import Derived.Test.YtapcbblfcmdbnaaDoorLexDef
import Derived.Test.YtapcbblfcmdbnaaDoorLexPlain
import Derived.Test.YtapcbblfcmdbnaaDoorLexC
import Derived.Test.YtapcbblfcmdbnaaDoorPk1
namespace Go.Proofs.YtapcbblfcmdbnaaDoor
open Go.RowKit

/-- As Q; by a goto to the label l: J l. -/
def Jmp (J : Nat → Act → World → Prop) (Q : Exit → Act → World → Prop) : Exit → Act → World → Prop
  | .goto l, a, w => J l a w
  | .normal, a, w => Q .normal a w
  | .exit i, a, w => Q (.exit i) a w
  | .ret, a, w => Q .ret a w
  | .panic c, a, w => Q (.panic c) a w
  | .outgrown, a, w => Q .outgrown a w

section
variable {P : Program} {a : Act} {w : World} {Q : Exit → Act → World → Prop}

theorem wp_scope_labels {c : Code} (R : Nat → Code) (J : Nat → Act → World → Prop) (μ : Nat → Act → World → Nat) (hf : ∀ l a w, J l a w → findLabel c l = some (R l))
    (first : c.wp P (Jmp J Q) a w)
    (pass : ∀ l a w, J l a w → (R l).wp P (Jmp (fun l' a' w' => J l' a' w' ∧ μ l' a' w' < μ l a w) Q) a w) : (Code.scope c).wp P Q a w := by
  intro b k cs
  have hg : ∀ l a w, J l a w → gotoIn l (.inScope c :: k) = some (.code (R l) :: .inScope c :: k) := fun l a w h => by simp [gotoIn, hf l a w h]
  have key : ∀ n l a w, μ l a w = n → J l a w → ∃ e a' w', Q e a' w' ∧ Arrives P (lone (b.at a (.code (R l) :: .inScope c :: k)) cs w) b k cs e a' w' := by
    intro n
    induction n using Nat.strongRecOn with
    | _ n ih =>
      intro l a w hn hJ
      obtain ⟨e, a₁, w₁, hq, harr⟩ := pass l a w hJ b (.inScope c :: k) cs
      cases e with
      | normal => exact ⟨.normal, a₁, w₁, hq, Steps.trans harr (.one step_inScope)⟩
      | exit id => exact ⟨.exit id, a₁, w₁, hq, fun k' hk => harr k' (by simp [exitTo, hk])⟩
      | goto l' =>
        obtain ⟨hJ', hlt⟩ := hq
        obtain ⟨e₂, a₂, w₂, hq₂, harr₂⟩ := ih _ (by omega) l' a₁ w₁ rfl hJ'
        exact ⟨e₂, a₂, w₂, hq₂, .of_steps (harr _ (hg l' a₁ w₁ hJ')) harr₂⟩
      | ret => exact ⟨_, a₁, w₁, hq, harr⟩
      | panic ch => exact ⟨_, a₁, w₁, hq, harr⟩
      | outgrown => exact ⟨_, a₁, w₁, hq, harr⟩
  obtain ⟨e, a₁, w₁, hq, harr⟩ := first b (.inScope c :: k) cs
  cases e with
  | normal => exact ⟨.normal, a₁, w₁, hq, .head step_scope (Steps.trans harr (.one step_inScope))⟩
  | exit id => exact ⟨.exit id, a₁, w₁, hq, fun k' hk => .head step_scope (harr k' (by simp [exitTo, hk]))⟩
  | goto l' =>
    obtain ⟨e₂, a₂, w₂, hq₂, harr₂⟩ := key _ l' a₁ w₁ rfl hq
    exact ⟨e₂, a₂, w₂, hq₂, .of_steps (.head step_scope (harr _ (hg l' a₁ w₁ hq))) harr₂⟩
  | ret => exact ⟨_, a₁, w₁, hq, .of_steps (.one step_scope) harr⟩
  | panic ch => exact ⟨_, a₁, w₁, hq, .of_steps (.one step_scope) harr⟩
  | outgrown => exact ⟨_, a₁, w₁, hq, .of_steps (.one step_scope) harr⟩
theorem wp_scope_two {c r0 r1 : Code} (J : Nat → Act → World → Prop) (μ : Nat → Act → World → Nat) (hJ : ∀ l a w, J l a w → l = 0 ∨ l = 1) (h0 : findLabel c 0 = some r0) (h1 : findLabel c 1 = some r1)
    (first : c.wp P (Jmp J Q) a w)
    (p0 : ∀ a w, J 0 a w → r0.wp P (Jmp (fun l' a' w' => J l' a' w' ∧ μ l' a' w' < μ 0 a w) Q) a w)
    (p1 : ∀ a w, J 1 a w → r1.wp P (Jmp (fun l' a' w' => J l' a' w' ∧ μ l' a' w' < μ 1 a w) Q) a w) : (Code.scope c).wp P Q a w := by
  refine wp_scope_labels (fun l => if l = 0 then r0 else r1) J μ ?_ first ?_
  · intro l a w h
    rcases hJ l a w h with rfl | rfl
    · exact h0
    · exact h1
  · intro l a w h
    rcases hJ l a w h with rfl | rfl
    · exact p0 a w h
    · exact p1 a w h
end
end Go.Proofs.YtapcbblfcmdbnaaDoor

namespace Go.Proofs.YtapcbblfcmdbnaaDoor
open Go.RowKit

section
variable {P : Program} {a : Act} {w : World} {Q : Exit → Act → World → Prop}

theorem wp_scope_six {c r0 r1 r2 r3 r4 r5 : Code} (J : Nat → Act → World → Prop) (μ : Nat → Act → World → Nat) (hJ : ∀ l a w, J l a w → l < 6)
    (h0 : findLabel c 0 = some r0) (h1 : findLabel c 1 = some r1) (h2 : findLabel c 2 = some r2) (h3 : findLabel c 3 = some r3) (h4 : findLabel c 4 = some r4) (h5 : findLabel c 5 = some r5)
    (first : c.wp P (Jmp J Q) a w)
    (p0 : ∀ a w, J 0 a w → r0.wp P (Jmp (fun l' a' w' => J l' a' w' ∧ μ l' a' w' < μ 0 a w) Q) a w)
    (p1 : ∀ a w, J 1 a w → r1.wp P (Jmp (fun l' a' w' => J l' a' w' ∧ μ l' a' w' < μ 1 a w) Q) a w)
    (p2 : ∀ a w, J 2 a w → r2.wp P (Jmp (fun l' a' w' => J l' a' w' ∧ μ l' a' w' < μ 2 a w) Q) a w)
    (p3 : ∀ a w, J 3 a w → r3.wp P (Jmp (fun l' a' w' => J l' a' w' ∧ μ l' a' w' < μ 3 a w) Q) a w)
    (p4 : ∀ a w, J 4 a w → r4.wp P (Jmp (fun l' a' w' => J l' a' w' ∧ μ l' a' w' < μ 4 a w) Q) a w)
    (p5 : ∀ a w, J 5 a w → r5.wp P (Jmp (fun l' a' w' => J l' a' w' ∧ μ l' a' w' < μ 5 a w) Q) a w) : (Code.scope c).wp P Q a w := by
  refine wp_scope_labels (fun l => match l with | 0 => r0 | 1 => r1 | 2 => r2 | 3 => r3 | 4 => r4 | _ => r5) J μ ?_ first ?_
  · intro l a w h
    have hl := hJ l a w h
    match l, hl with
    | 0, _ => exact h0
    | 1, _ => exact h1
    | 2, _ => exact h2
    | 3, _ => exact h3
    | 4, _ => exact h4
    | 5, _ => exact h5
  · intro l a w h
    have hl := hJ l a w h
    match l, hl with
    | 0, _ => exact p0 a w h
    | 1, _ => exact p1 a w h
    | 2, _ => exact p2 a w h
    | 3, _ => exact p3 a w h
    | 4, _ => exact p4 a w h
    | 5, _ => exact p5 a w h
end
end Go.Proofs.YtapcbblfcmdbnaaDoor

namespace Go.Proofs.YtapcbblfcmdbnaaDoor
open Go.RowKit
set_option maxRecDepth 8000

/-- How much is left: at the first label, at the second one. -/
def lpM (s : ByteArray) (l : Nat) (a : Act) : Nat := 4 * (s.size - (intOf (a.tmps.getD 1 undef)).toNat) + (if l = 0 then 2 else if (intOf (a.tmps.getD 1 undef)).toNat < s.size ∧ bt s (intOf (a.tmps.getD 1 undef)).toNat ≠ 10 then 0 else 3)
def lpN (s : ByteArray) (l k : Nat) : Nat := 4 * (s.size - k) + (if l = 0 then 2 else if k < s.size ∧ bt s k ≠ 10 then 0 else 3)
theorem lpN_0 (s : ByteArray) (k : Nat) : lpN s 0 k = 4 * (s.size - k) + 2 := rfl
theorem lpN_1 {s : ByteArray} {k : Nat} (h : k < s.size ∧ bt s k ≠ 10) : lpN s 1 k = 4 * (s.size - k) := by unfold lpN; rw [if_neg (by omega), if_pos h]; rfl
theorem lpN_2 {s : ByteArray} {k : Nat} (h : ¬ (k < s.size ∧ bt s k ≠ 10)) : lpN s 1 k = 4 * (s.size - k) + 3 := by unfold lpN; rw [if_neg (by omega), if_neg h]
theorem lpN_3 (s : ByteArray) (k : Nat) : lpN s 1 k ≤ 4 * (s.size - k) + 3 := by
  by_cases h : k < s.size ∧ bt s k ≠ 10
  · rw [lpN_1 h]; omega
  · rw [lpN_2 h]; omega

set_option maxHeartbeats 4000000 in
theorem passOver_any (s : ByteArray) (p : Nat) (w : World) (hs : s.size ≤ maxLen) (hp : p ≤ s.size) :
    Calls Tryd.prog 22 #[.string s, .int .i64 (p : Int)] w fun e w' => e = .returned (.int .i64 ((pas s p : Nat) : Int)) ∧ w' = w := by
  unfold maxLen at hs
  obtain ⟨R, hR⟩ : ∃ R, pas s p = R := ⟨_, rfl⟩
  rw [hR]
  go_enter Tryd.func22, Tryd.ntmps22
  go_wp2
  refine wp_scope_two (fun l a' w' => w' = w ∧ (l = 0 ∨ l = 1) ∧ ∃ (k : Nat) (u2 u3 u4 u5 u6 u7 u8 u9 u10 u11 u12 u13 u14 u15 u16 u17 u18 u19 u20 u21 u22 u23 u24 u25 u26 u27 u28 u29 u30 u31 u32 u33 u34 u35 u36 u37 u38 u39 : Value), a' = ({ tmps := #[.string s, .int .i64 (k : Int), u2, u3, u4, u5, u6, u7, u8, u9, u10, u11, u12, u13, u14, u15, u16, u17, u18, u19, u20, u21, u22, u23, u24, u25, u26, u27, u28, u29, u30, u31, u32, u33, u34, u35, u36, u37, u38, u39], defers := [] } : Act) ∧ k ≤ s.size ∧ (l = 0 → pas s k = R) ∧ (l = 1 → pas s (tw (neB 10) s k) = R)) (fun l a' _ => lpM s l a') (fun l a w h => h.2.1) rfl rfl ?_ ?_ ?_
  · have HK : Hid (pas s p = R) := hR
    clear hR
    go_wp2
    go_step3
    by_cases hlt : p < s.size
    · have hbt := byte_txt s p hlt
      obtain ⟨c, hcc⟩ : ∃ c, bt s p = c := ⟨_, rfl⟩
      have hbt' : ((s[p].toNat : Nat) : Int) = c := hbt.trans hcc
      have hki : (p : Int) < (s.size : Int) := by omega
      have HBL := Hid.mk (isBlank_any c)
      clear hbt
      cases hb : blB c with
      | true =>
        have HN : Hid (pas s (p + 1) = R) := (pas_blank hlt (by rw [hcc]; exact hb)).symm.trans HK.out
        rw [hb] at HBL
        go_wp2_with fail
        refine (HBL.out _).mono ?_
        rintro e w' ⟨rfl, rfl⟩
        go_wp2
        go_step3
        rw [show (p : Int) + 1 = ((p + 1 : Nat) : Int) by omega]
        exact ⟨rfl, .inl rfl, p + 1, _, _, _, _, _, _, _, _, _, _, _, _, _, _, _, _, _, _, _, _, _, _, _, _, _, _, _, _, _, _, _, _, _, _, _, _, _, _, rfl, by omega, fun _ => HN.out, fun h => by omega⟩
      | false =>
        rw [hb] at HBL
        by_cases h35 : c = 35
        · have HN : Hid (pas s (tw (neB 10) s p) = R) := (pas_mark hlt (by rw [hcc]; exact h35)).symm.trans HK.out
          subst h35
          go_wp2_with fail
          refine (HBL.out _).mono ?_
          rintro e w' ⟨rfl, rfl⟩
          go_wp2
          go_step3
          exact ⟨rfl, .inr rfl, p, _, _, _, _, _, _, _, _, _, _, _, _, _, _, _, _, _, _, _, _, _, _, _, _, _, _, _, _, _, _, _, _, _, _, _, _, _, _, rfl, by omega, fun h => by omega, fun _ => HN.out⟩
        · have HN : Hid (p = R) := (pas_stop hlt (by rw [hcc]; exact hb) (by rw [hcc]; exact h35)).symm.trans HK.out
          have e5 : (c == 35) = false := beq_false_of_ne h35
          clear h35
          go_wp2_with fail
          refine (HBL.out _).mono ?_
          rintro e w' ⟨rfl, rfl⟩
          go_wp2
          simp only [Jmp]
          go_ret
          exact ⟨by rw [HN.out]; rfl, rfl⟩
    · have HN : Hid (p = R) := (pas_end hlt).symm.trans HK.out
      have hki : ¬ (p : Int) < (s.size : Int) := by omega
      go_wp2
      simp only [Jmp]
      go_ret
      exact ⟨by rw [HN.out]; rfl, rfl⟩
  · rintro a' w' ⟨rfl, -, k, u2, u3, u4, u5, u6, u7, u8, u9, u10, u11, u12, u13, u14, u15, u16, u17, u18, u19, u20, u21, u22, u23, u24, u25, u26, u27, u28, u29, u30, u31, u32, u33, u34, u35, u36, u37, u38, u39, rfl, hk, h0, -⟩
    have HK : Hid (pas s k = R) := h0 rfl
    clear h0 hR hp
    by_cases hlt : k < s.size
    · have hbt := byte_txt s k hlt
      obtain ⟨c, hcc⟩ : ∃ c, bt s k = c := ⟨_, rfl⟩
      have hbt' : ((s[k].toNat : Nat) : Int) = c := hbt.trans hcc
      have hki : (k : Int) < (s.size : Int) := by omega
      have HBL := Hid.mk (isBlank_any c)
      clear hbt
      cases hb : blB c with
      | true =>
        have HN : Hid (pas s (k + 1) = R) := (pas_blank hlt (by rw [hcc]; exact hb)).symm.trans HK.out
        rw [hb] at HBL
        go_wp2_with fail
        refine (HBL.out _).mono ?_
        rintro e w' ⟨rfl, rfl⟩
        go_wp2
        go_step3
        rw [show (k : Int) + 1 = ((k + 1 : Nat) : Int) by omega]
        refine ⟨⟨rfl, .inl rfl, k + 1, _, _, _, _, _, _, _, _, _, _, _, _, _, _, _, _, _, _, _, _, _, _, _, _, _, _, _, _, _, _, _, _, _, _, _, _, _, _, rfl, by omega, fun _ => HN.out, fun h => by omega⟩, ?_⟩
        show lpN s 0 (k + 1) < lpN s 0 k
        rw [lpN_0, lpN_0]
        omega
      | false =>
        rw [hb] at HBL
        by_cases h35 : c = 35
        · have HN : Hid (pas s (tw (neB 10) s k) = R) := (pas_mark hlt (by rw [hcc]; exact h35)).symm.trans HK.out
          subst h35
          go_wp2_with fail
          refine (HBL.out _).mono ?_
          rintro e w' ⟨rfl, rfl⟩
          go_wp2
          go_step3
          refine ⟨⟨rfl, .inr rfl, k, _, _, _, _, _, _, _, _, _, _, _, _, _, _, _, _, _, _, _, _, _, _, _, _, _, _, _, _, _, _, _, _, _, _, _, _, _, _, rfl, by omega, fun h => by omega, fun _ => HN.out⟩, ?_⟩
          show lpN s 1 k < lpN s 0 k
          rw [lpN_0, lpN_1 ⟨hlt, by rw [hcc]; decide⟩]
          omega
        · have HN : Hid (k = R) := (pas_stop hlt (by rw [hcc]; exact hb) (by rw [hcc]; exact h35)).symm.trans HK.out
          have e5 : (c == 35) = false := beq_false_of_ne h35
          clear h35
          go_wp2_with fail
          refine (HBL.out _).mono ?_
          rintro e w' ⟨rfl, rfl⟩
          go_wp2
          simp only [Jmp]
          go_ret
          exact ⟨by rw [HN.out]; rfl, rfl⟩
    · have HN : Hid (k = R) := (pas_end hlt).symm.trans HK.out
      have hki : ¬ (k : Int) < (s.size : Int) := by omega
      go_wp2
      simp only [Jmp]
      go_ret
      exact ⟨by rw [HN.out]; rfl, rfl⟩
  · rintro a' w' ⟨rfl, -, k, u2, u3, u4, u5, u6, u7, u8, u9, u10, u11, u12, u13, u14, u15, u16, u17, u18, u19, u20, u21, u22, u23, u24, u25, u26, u27, u28, u29, u30, u31, u32, u33, u34, u35, u36, u37, u38, u39, rfl, hk, -, h1⟩
    have HK : Hid (pas s (tw (neB 10) s k) = R) := h1 rfl
    clear h1 hR hp
    by_cases hlt : k < s.size
    · have hbt := byte_txt s k hlt
      obtain ⟨c, hcc⟩ : ∃ c, bt s k = c := ⟨_, rfl⟩
      have hbt' : ((s[k].toNat : Nat) : Int) = c := hbt.trans hcc
      have hki : (k : Int) < (s.size : Int) := by omega
      clear hbt
      by_cases h10 : c = 10
      · have HN : Hid (pas s k = R) := by
          have h := HK.out
          rw [tw_stop hlt (by rw [hcc, h10]; decide)] at h
          exact h
        subst h10
        go_wp2
        go_step3
        refine ⟨⟨rfl, .inl rfl, k, _, _, _, _, _, _, _, _, _, _, _, _, _, _, _, _, _, _, _, _, _, _, _, _, _, _, _, _, _, _, _, _, _, _, _, _, _, _, rfl, by omega, fun _ => HN.out, fun h => by omega⟩, ?_⟩
        show lpN s 0 k < lpN s 1 k
        rw [lpN_0, lpN_2 (by rintro ⟨_, h⟩; exact h hcc)]
        omega
      · have HN : Hid (pas s (tw (neB 10) s (k + 1)) = R) := by
          have h := HK.out
          rw [tw_step hlt (by rw [hcc]; simpa [neB] using h10)] at h
          exact h
        have e10 : (c != 10) = true := by simpa using h10
        go_wp2
        go_step3
        rw [show (k : Int) + 1 = ((k + 1 : Nat) : Int) by omega]
        refine ⟨⟨rfl, .inr rfl, k + 1, _, _, _, _, _, _, _, _, _, _, _, _, _, _, _, _, _, _, _, _, _, _, _, _, _, _, _, _, _, _, _, _, _, _, _, _, _, _, rfl, by omega, fun h => by omega, fun _ => HN.out⟩, ?_⟩
        show lpN s 1 (k + 1) < lpN s 1 k
        rw [lpN_1 ⟨hlt, by rw [hcc]; exact h10⟩]
        have := lpN_3 s (k + 1)
        omega
    · have HN : Hid (pas s k = R) := by
        have h := HK.out
        rw [tw_end (by omega)] at h
        exact h
      have hki : ¬ (k : Int) < (s.size : Int) := by omega
      go_wp2
      go_step3
      refine ⟨⟨rfl, .inl rfl, k, _, _, _, _, _, _, _, _, _, _, _, _, _, _, _, _, _, _, _, _, _, _, _, _, _, _, _, _, _, _, _, _, _, _, _, _, _, _, rfl, by omega, fun _ => HN.out, fun h => by omega⟩, ?_⟩
      show lpN s 0 k < lpN s 1 k
      rw [lpN_0, lpN_2 (by rintro ⟨h, _⟩; exact hlt h)]
      omega
end Go.Proofs.YtapcbblfcmdbnaaDoor

namespace Go.Proofs.YtapcbblfcmdbnaaDoor
open Go.RowKit

theorem ErrR.grow {w w' : World} (h : ErrR w) (hb : Below w.heap.size w w') : ErrR w' := by
  obtain ⟨tp, p, hv⟩ := h
  refine ⟨tp, p, ?_⟩
  unfold World.var? at hv ⊢
  cases hg : (Program.globalNamed Tryd.prog "strconv.ErrRange") with
  | none => simp [hg] at hv
  | some g =>
    simp only [hg, Option.bind_some] at hv ⊢
    have hlt : g < w.heap.size := by
      rcases Nat.lt_or_ge g w.heap.size with h' | h'
      · exact h'
      · rw [Array.getElem?_eq_none h'] at hv; simp at hv
    rw [hb.block g hlt]
    exact hv
end Go.Proofs.YtapcbblfcmdbnaaDoor

namespace Go.Proofs.YtapcbblfcmdbnaaDoor
open Go.RowKit
set_option maxRecDepth 20000

def lxc : Nat → Nat
  | 0 => 12
  | 5 => 13
  | _ => 14
/-- How much is left. -/
def lxM (s : ByteArray) (l : Nat) (a : Act) : Nat := 16 * (s.size - (intOf (a.tmps.getD 7 undef)).toNat) + lxc l
def lxN (s : ByteArray) (l q : Nat) : Nat := 16 * (s.size - q) + lxc l
theorem lxN_lt {s : ByteArray} {l l' q q' : Nat} (hq : q ≤ s.size) (h : (q < q' ∧ q' ≤ s.size) ∨ (q' = q ∧ lxc l' < lxc l)) : lxN s l' q' < lxN s l q := by
  have h14 : ∀ l, lxc l ≤ 14 ∧ 12 ≤ lxc l := fun l => by unfold lxc; split <;> omega
  have a := h14 l
  have b := h14 l'
  unfold lxN
  omega

theorem frame121 (a : Act) (v0 v4 v5 v6 v7 : Value) (hs : a.tmps.size = 121) (hd : a.defers = []) (h0 : a.tmps.getD 0 undef = v0) (h4 : a.tmps.getD 4 undef = v4) (h5 : a.tmps.getD 5 undef = v5) (h6 : a.tmps.getD 6 undef = v6) (h7 : a.tmps.getD 7 undef = v7) : ∃ U : Nat → Value, a = { tmps := #[v0, U 1, U 2, U 3, v4, v5, v6, v7, U 8, U 9, U 10, U 11, U 12, U 13, U 14, U 15, U 16, U 17, U 18, U 19, U 20, U 21, U 22, U 23, U 24, U 25, U 26, U 27, U 28, U 29, U 30, U 31, U 32, U 33, U 34, U 35, U 36, U 37, U 38, U 39, U 40, U 41, U 42, U 43, U 44, U 45, U 46, U 47, U 48, U 49, U 50, U 51, U 52, U 53, U 54, U 55, U 56, U 57, U 58, U 59, U 60, U 61, U 62, U 63, U 64, U 65, U 66, U 67, U 68, U 69, U 70, U 71, U 72, U 73, U 74, U 75, U 76, U 77, U 78, U 79, U 80, U 81, U 82, U 83, U 84, U 85, U 86, U 87, U 88, U 89, U 90, U 91, U 92, U 93, U 94, U 95, U 96, U 97, U 98, U 99, U 100, U 101, U 102, U 103, U 104, U 105, U 106, U 107, U 108, U 109, U 110, U 111, U 112, U 113, U 114, U 115, U 116, U 117, U 118, U 119, U 120], defers := [] } := by
  obtain ⟨t, d⟩ := a
  simp only at hs hd h0 h4 h5 h6 h7
  subst hd
  have key : t = ((List.range 121).map (fun i => t.getD i undef)).toArray := by
    apply Array.ext
    · simp [hs]
    · intro i h1 h2
      simp [Array.getD, h1]
  subst h0 h4 h5 h6 h7
  refine ⟨fun i => t.getD i undef, ?_⟩
  exact congrArg (fun x => Act.mk x []) (key.trans rfl)

/-- What holds at a jump to a label. -/
def LxJ (s : ByteArray) (w : World) : Nat → Act → World → Prop := fun l a W => l < 6 ∧ ∃ (p q : Nat) (L : List Tk) (k n : Int) (ts : ByteArray) (oa : Option Addr) (oc : Nat), a.tmps.size = 121 ∧ a.defers = [] ∧ a.tmps.getD 0 undef = .string s ∧ a.tmps.getD 4 undef = .slice oa L.length oc ∧ a.tmps.getD 5 undef = .pointer (some ⟨w.heap.size + 1, 0, none⟩) ∧ a.tmps.getD 6 undef = .int .i64 (p : Int) ∧ a.tmps.getD 7 undef = .int .i64 (q : Int) ∧ Hid (LxS s w W (w.heap.size + 1) L k n ts oa oc) ∧ (l = 0 → Hid (q ≤ s.size ∧ LxAt s q L)) ∧ (l = 1 → Hid (C1 s p q L k n ts)) ∧ (l = 2 → Hid (C2 s p q L k n ts)) ∧ (l = 3 → Hid (C3 s p q L k n ts)) ∧ (l = 4 → Hid (C4 s p q L k n ts)) ∧ (l = 5 → Hid (C5 s p q L k n ts))

theorem LxS.start (s : ByteArray) (w : World) (k : Int) : LxS s w ((w.alloc (.cells #[] 31)).alloc (.cells #[.int .i64 k, .int .i64 0, .string ⟨#[]⟩] 31)) (w.heap.size + 1) [] k 0 ⟨#[]⟩ (some ⟨w.heap.size, 0, none⟩) 0 := by
  have A0 : Below w.heap.size w (w.alloc (.cells #[] 31)) := (Below.refl _ _).alloc (Nat.le_refl _) _
  have O0 : OwnK (w.alloc (.cells #[] 31)) w.heap.size (.slice (some ⟨w.heap.size, 0, none⟩) 0 0) [] := World.ownsRow_lit w #[] 0 (Nat.le_refl _) (by decide) rfl
  have hz : (w.alloc (.cells #[] 31)).heap.size = w.heap.size + 1 := by simp
  refine ⟨A0.alloc A0.size _, O0.grow ((Below.refl _ _).alloc (Nat.le_refl _) _), by simp, by simp, Nat.zero_le _, ?_, ?_, Nat.le_refl _, Nat.le_succ _⟩
  · simp [Value.ownBlock]
  · have := heap_alloc_new (w.alloc (.cells #[] 31)) (.cells #[.int .i64 k, .int .i64 0, .string ⟨#[]⟩] 31)
    rw [hz] at this
    exact this

set_option maxHeartbeats 8000000 in
theorem implLex_any (s : ByteArray) (w : World) (hs : s.size ≤ 1048576) (ht : Tab w) (he : ErrR w) :
    Calls Tryd.prog 8 #[.string s] w fun e w' => ∃ u, e = .returned (.tuple #[u, .int .i64 (lexT s).2]) ∧ OwnK w' w.heap.size u (lexT s).1 ∧ Below w.heap.size w w' := by
  have hsm : s.size ≤ maxLen := by unfold maxLen; omega
  have HPO := Hid.mk (fun q hq W => passOver_any s q W hsm hq)
  have HPB := Hid.mk (pas_bd s)
  have HTB := Hid.mk (fun W (hb : Below w.heap.size w W) => ht.grow hb)
  have HER := Hid.mk (fun W (hb : Below w.heap.size w W) => he.grow hb)
  have HSM := Hid.mk hsm
  clear ht he hsm
  obtain ⟨RES, hRES⟩ : ∃ RES, lexT s = RES := ⟨_, rfl⟩
  have HRES := Hid.mk hRES
  rw [hRES]
  clear hRES
  go_enter Tryd.func8, Tryd.ntmps8
  go_wp2
  refine wp_scope_six (LxJ s w) (fun l a' _ => lxM s l a') (fun l a w h => h.1) rfl rfl rfl rfl rfl rfl ?_ ?_ ?_ ?_ ?_ ?_ ?_
  · have HS := Hid.mk (LxS.start s w 0)
    have HC : Hid (0 ≤ s.size ∧ LxAt s 0 []) := ⟨Nat.zero_le _, LxAt.start s⟩
    go_wp2
    go_step3
    have hq : 0 ≤ s.size := HC.out.1
    have HP := Hid.mk (HPO.out 0 hq)
    have hb := HPB.out 0 hq
    have HLX := Hid.mk (LxP.of HC.out.2)
    have HDN := Hid.mk (fun h => LxAt.done HC.out.2 h)
    obtain ⟨P, hP⟩ : ∃ P, pas s 0 = P := ⟨_, rfl⟩
    rw [hP] at HP hb HLX HDN
    clear hP HC
    by_cases hPe : P = s.size
    · have HR := Hid.mk (HRES.out.symm.trans (HDN.out hPe))
      have hee : ((P : Int) == (s.size : Int)) = true := by simp; omega
      clear HLX HDN
      go_wp2_with fail
      refine (HP.out _).mono ?_
      rintro e w' ⟨rfl, hw'⟩
      subst hw'
      go_wp2
      simp only [Jmp]
      refine bodyPost_ret (v := .tuple #[.slice (some ⟨w.heap.size, 0, none⟩) 0 0, .int .i64 (-1)]) (by simp [results, Tryd.results8, go_sem]) rfl ⟨_, by rw [HR.out], by rw [HR.out]; exact HS.out.own, HS.out.b⟩
    · have hPl : P < s.size := by omega
      have hee : ((P : Int) == (s.size : Int)) = false := by simp; omega
      have hLX : LxP s P [] := HLX.out hPl
      have hbt := byte_txt s P hPl
      have hPi : (P : Int) < (s.size : Int) := by omega
      have HKD := Hid.mk (fun W' (h : Tl W' [] (.slice (some ⟨w.heap.size, 0, none⟩) 0 0)) => kindOfNext_any (bt s P) [] _ W' h HS.out.ok)
      have HKC := Hid.mk (kd_cases (bt s P) (tiL []))
      have S1 := Hid.mk (fun hd => C1.start hLX hd)
      have S2 := Hid.mk (fun hd he => C2.start hLX hd he)
      have S3 := Hid.mk (fun hd => C3.start hLX hd)
      have S4 := Hid.mk (fun k hd he => C4.start (k := k) hLX hd he)
      obtain ⟨c, hcc⟩ : ∃ c, bt s P = c := ⟨_, rfl⟩
      have hbt' : ((s[P].toNat : Nat) : Int) = c := hbt.trans hcc
      rw [hcc] at HKD HKC S1 S2 S4
      obtain ⟨kk, hkk⟩ : ∃ kk, kdT c (tiL []) = kk := ⟨_, rfl⟩
      rw [hkk] at HKD HKC
      have HKK := Hid.mk hkk
      have HCC := Hid.mk hcc
      clear HDN HLX hbt hcc hkk hLX
      rcases HKC.out with ⟨hk, hd⟩ | ⟨hk, hd, hsm⟩ | hk | hk34
      · subst hk
        have HN := Hid.mk (S1.out hd)
        clear S1 S2 S3 S4 HKC hd
        go_wp2_with fail
        refine (HP.out _).mono ?_
        rintro e w' ⟨rfl, hw'⟩
        subst hw'
        go_wp2_with fail
        refine (HKD.out _ (HS.out.tl HSM.out)).mono ?_
        rintro e w' ⟨rfl, hw'⟩
        subst hw'
        have c0 := HS.out.bx.c0
        have c1 := HS.out.bx.c1
        have c2 := HS.out.bx.c2
        have f0 := HS.out.bx.fr 0
        have f1 := HS.out.bx.fr 1
        have f2 := HS.out.bx.fr 2
        have HS3 := Hid.mk (LxS.start s w)
        clear HP HKD HS
        go_wp2
        go_step3
        rw [show (P : Int) + 1 = ((P + 1 : Nat) : Int) by omega]
        unfold LxJ
        exact ⟨by omega, P, P + 1, [], 1, 0, ⟨#[]⟩, (some ⟨w.heap.size, 0, none⟩), 0, rfl, rfl, rfl, rfl, rfl, rfl, rfl, Hid.mk (HS3.out _), fun h => by omega, fun _ => HN, fun h => by omega, fun h => by omega, fun h => by omega, fun h => by omega⟩
      · subst hk
        have HN := Hid.mk (S2.out hd hsm)
        clear S1 S2 S3 S4 HKC hd hsm
        go_wp2_with fail
        refine (HP.out _).mono ?_
        rintro e w' ⟨rfl, hw'⟩
        subst hw'
        go_wp2_with fail
        refine (HKD.out _ (HS.out.tl HSM.out)).mono ?_
        rintro e w' ⟨rfl, hw'⟩
        subst hw'
        have c0 := HS.out.bx.c0
        have c1 := HS.out.bx.c1
        have c2 := HS.out.bx.c2
        have f0 := HS.out.bx.fr 0
        have f1 := HS.out.bx.fr 1
        have f2 := HS.out.bx.fr 2
        have HS3 := Hid.mk (LxS.start s w)
        clear HP HKD HS
        go_wp2
        go_step3
        rw [show (P : Int) + 1 = ((P + 1 : Nat) : Int) by omega]
        unfold LxJ
        exact ⟨by omega, P, P + 1, [], 2, 0, ⟨#[]⟩, (some ⟨w.heap.size, 0, none⟩), 0, rfl, rfl, rfl, rfl, rfl, rfl, rfl, Hid.mk (HS3.out _), fun h => by omega, fun h => by omega, fun _ => HN, fun h => by omega, fun h => by omega, fun h => by omega⟩
      · subst hk
        have HN := Hid.mk (S3.out (by rw [HCC.out]; exact HKK.out))
        clear S1 S2 S3 S4 HKC
        go_wp2_with fail
        refine (HP.out _).mono ?_
        rintro e w' ⟨rfl, hw'⟩
        subst hw'
        go_wp2_with fail
        refine (HKD.out _ (HS.out.tl HSM.out)).mono ?_
        rintro e w' ⟨rfl, hw'⟩
        subst hw'
        have c0 := HS.out.bx.c0
        have c1 := HS.out.bx.c1
        have c2 := HS.out.bx.c2
        have f0 := HS.out.bx.fr 0
        have f1 := HS.out.bx.fr 1
        have f2 := HS.out.bx.fr 2
        have HS3 := Hid.mk (LxS.start s w)
        clear HP HKD HS
        go_wp2
        go_step3
        rw [show (P : Int) + 1 = ((P + 1 : Nat) : Int) by omega]
        unfold LxJ
        exact ⟨by omega, P, P + 1, [], 5, 0, ⟨#[]⟩, (some ⟨w.heap.size, 0, none⟩), 0, rfl, rfl, rfl, rfl, rfl, rfl, rfl, Hid.mk (HS3.out _), fun h => by omega, fun h => by omega, fun h => by omega, fun _ => HN, fun h => by omega, fun h => by omega⟩
      · rcases hk34 with hk | hk
        · subst hk
          have HN := Hid.mk (S4.out 3 HKK.out (.inl rfl))
          clear S1 S2 S3 S4 HKC
          go_wp2_with fail
          refine (HP.out _).mono ?_
          rintro e w' ⟨rfl, hw'⟩
          subst hw'
          go_wp2_with fail
          refine (HKD.out _ (HS.out.tl HSM.out)).mono ?_
          rintro e w' ⟨rfl, hw'⟩
          subst hw'
          have c0 := HS.out.bx.c0
          have c1 := HS.out.bx.c1
          have c2 := HS.out.bx.c2
          have f0 := HS.out.bx.fr 0
          have f1 := HS.out.bx.fr 1
          have f2 := HS.out.bx.fr 2
          have HS3 := Hid.mk (LxS.start s w)
          clear HP HKD HS
          go_wp2
          go_step3
          rw [show (P : Int) + 1 = ((P + 1 : Nat) : Int) by omega]
          unfold LxJ
          exact ⟨by omega, P, P + 1, [], 3, 0, ⟨#[]⟩, (some ⟨w.heap.size, 0, none⟩), 0, rfl, rfl, rfl, rfl, rfl, rfl, rfl, Hid.mk (HS3.out _), fun h => by omega, fun h => by omega, fun h => by omega, fun h => by omega, fun _ => HN, fun h => by omega⟩
        · subst hk
          have HN := Hid.mk (S4.out 4 HKK.out (.inr rfl))
          clear S1 S2 S3 S4 HKC
          go_wp2_with fail
          refine (HP.out _).mono ?_
          rintro e w' ⟨rfl, hw'⟩
          subst hw'
          go_wp2_with fail
          refine (HKD.out _ (HS.out.tl HSM.out)).mono ?_
          rintro e w' ⟨rfl, hw'⟩
          subst hw'
          have c0 := HS.out.bx.c0
          have c1 := HS.out.bx.c1
          have c2 := HS.out.bx.c2
          have f0 := HS.out.bx.fr 0
          have f1 := HS.out.bx.fr 1
          have f2 := HS.out.bx.fr 2
          have HS3 := Hid.mk (LxS.start s w)
          clear HP HKD HS
          go_wp2
          go_step3
          rw [show (P : Int) + 1 = ((P + 1 : Nat) : Int) by omega]
          unfold LxJ
          exact ⟨by omega, P, P + 1, [], 4, 0, ⟨#[]⟩, (some ⟨w.heap.size, 0, none⟩), 0, rfl, rfl, rfl, rfl, rfl, rfl, rfl, Hid.mk (HS3.out _), fun h => by omega, fun h => by omega, fun h => by omega, fun h => by omega, fun _ => HN, fun h => by omega⟩
  · intro a' W hJ
    unfold LxJ at hJ
    obtain ⟨-, p, q, L, k, n, ts, oa, oc, g1, g2, g3, g4, g5, g6, g7, HS, h0, -, -, -, -, -⟩ := hJ
    have HC := h0 rfl
    obtain ⟨U, rfl⟩ := frame121 a' _ _ _ _ _ g1 g2 g3 g4 g5 g6 g7
    clear h0 g1 g2 g3 g4 g5 g6 g7
    have hq : q ≤ s.size := HC.out.1
    have HP := Hid.mk (HPO.out q hq)
    have hb := HPB.out q hq
    have HLX := Hid.mk (LxP.of HC.out.2)
    have HDN := Hid.mk (fun h => LxAt.done HC.out.2 h)
    obtain ⟨P, hP⟩ : ∃ P, pas s q = P := ⟨_, rfl⟩
    rw [hP] at HP hb HLX HDN
    clear hP HC
    by_cases hPe : P = s.size
    · have HR := Hid.mk (HRES.out.symm.trans (HDN.out hPe))
      have hee : ((P : Int) == (s.size : Int)) = true := by simp; omega
      clear HLX HDN
      go_wp2_with fail
      refine (HP.out _).mono ?_
      rintro e w' ⟨rfl, hw'⟩
      subst hw'
      go_wp2
      simp only [Jmp]
      refine bodyPost_ret (v := .tuple #[.slice oa L.length oc, .int .i64 (-1)]) (by simp [results, Tryd.results8, go_sem]) rfl ⟨_, by rw [HR.out], by rw [HR.out]; exact HS.out.own, HS.out.b⟩
    · have hPl : P < s.size := by omega
      have hee : ((P : Int) == (s.size : Int)) = false := by simp; omega
      have hLX : LxP s P L := HLX.out hPl
      have hbt := byte_txt s P hPl
      have hPi : (P : Int) < (s.size : Int) := by omega
      have HKD := Hid.mk (fun W' (h : Tl W' L (.slice oa L.length oc)) => kindOfNext_any (bt s P) L _ W' h HS.out.ok)
      have HKC := Hid.mk (kd_cases (bt s P) (tiL L))
      have S1 := Hid.mk (fun hd => C1.start hLX hd)
      have S2 := Hid.mk (fun hd he => C2.start hLX hd he)
      have S3 := Hid.mk (fun hd => C3.start hLX hd)
      have S4 := Hid.mk (fun k hd he => C4.start (k := k) hLX hd he)
      obtain ⟨c, hcc⟩ : ∃ c, bt s P = c := ⟨_, rfl⟩
      have hbt' : ((s[P].toNat : Nat) : Int) = c := hbt.trans hcc
      rw [hcc] at HKD HKC S1 S2 S4
      obtain ⟨kk, hkk⟩ : ∃ kk, kdT c (tiL L) = kk := ⟨_, rfl⟩
      rw [hkk] at HKD HKC
      have HKK := Hid.mk hkk
      have HCC := Hid.mk hcc
      clear HDN HLX hbt hcc hkk hLX
      rcases HKC.out with ⟨hk, hd⟩ | ⟨hk, hd, hsm⟩ | hk | hk34
      · subst hk
        have HN := Hid.mk (S1.out hd)
        clear S1 S2 S3 S4 HKC hd
        go_wp2_with fail
        refine (HP.out _).mono ?_
        rintro e w' ⟨rfl, hw'⟩
        subst hw'
        go_wp2_with fail
        refine (HKD.out _ (HS.out.tl HSM.out)).mono ?_
        rintro e w' ⟨rfl, hw'⟩
        subst hw'
        have c0 := HS.out.bx.c0
        have c1 := HS.out.bx.c1
        have c2 := HS.out.bx.c2
        have f0 := HS.out.bx.fr 0
        have f1 := HS.out.bx.fr 1
        have f2 := HS.out.bx.fr 2
        have HS3 := Hid.mk (fun x => HS.out.s3 x 0 ⟨#[]⟩)
        clear HP HKD HS
        go_wp2
        go_step3
        rw [show (P : Int) + 1 = ((P + 1 : Nat) : Int) by omega]
        refine ⟨by unfold LxJ; exact ⟨by omega, P, P + 1, L, 1, 0, ⟨#[]⟩, oa, oc, rfl, rfl, rfl, rfl, rfl, rfl, rfl, Hid.mk (HS3.out _), fun h => by omega, fun _ => HN, fun h => by omega, fun h => by omega, fun h => by omega, fun h => by omega⟩, ?_⟩
        show lxN s 1 (P + 1) < lxN s 0 q
        exact lxN_lt hq (by first | exact .inl ⟨by omega, by omega⟩ | exact .inr ⟨rfl, by decide⟩)
      · subst hk
        have HN := Hid.mk (S2.out hd hsm)
        clear S1 S2 S3 S4 HKC hd hsm
        go_wp2_with fail
        refine (HP.out _).mono ?_
        rintro e w' ⟨rfl, hw'⟩
        subst hw'
        go_wp2_with fail
        refine (HKD.out _ (HS.out.tl HSM.out)).mono ?_
        rintro e w' ⟨rfl, hw'⟩
        subst hw'
        have c0 := HS.out.bx.c0
        have c1 := HS.out.bx.c1
        have c2 := HS.out.bx.c2
        have f0 := HS.out.bx.fr 0
        have f1 := HS.out.bx.fr 1
        have f2 := HS.out.bx.fr 2
        have HS3 := Hid.mk (fun x => HS.out.s3 x 0 ⟨#[]⟩)
        clear HP HKD HS
        go_wp2
        go_step3
        rw [show (P : Int) + 1 = ((P + 1 : Nat) : Int) by omega]
        refine ⟨by unfold LxJ; exact ⟨by omega, P, P + 1, L, 2, 0, ⟨#[]⟩, oa, oc, rfl, rfl, rfl, rfl, rfl, rfl, rfl, Hid.mk (HS3.out _), fun h => by omega, fun h => by omega, fun _ => HN, fun h => by omega, fun h => by omega, fun h => by omega⟩, ?_⟩
        show lxN s 2 (P + 1) < lxN s 0 q
        exact lxN_lt hq (by first | exact .inl ⟨by omega, by omega⟩ | exact .inr ⟨rfl, by decide⟩)
      · subst hk
        have HN := Hid.mk (S3.out (by rw [HCC.out]; exact HKK.out))
        clear S1 S2 S3 S4 HKC
        go_wp2_with fail
        refine (HP.out _).mono ?_
        rintro e w' ⟨rfl, hw'⟩
        subst hw'
        go_wp2_with fail
        refine (HKD.out _ (HS.out.tl HSM.out)).mono ?_
        rintro e w' ⟨rfl, hw'⟩
        subst hw'
        have c0 := HS.out.bx.c0
        have c1 := HS.out.bx.c1
        have c2 := HS.out.bx.c2
        have f0 := HS.out.bx.fr 0
        have f1 := HS.out.bx.fr 1
        have f2 := HS.out.bx.fr 2
        have HS3 := Hid.mk (fun x => HS.out.s3 x 0 ⟨#[]⟩)
        clear HP HKD HS
        go_wp2
        go_step3
        rw [show (P : Int) + 1 = ((P + 1 : Nat) : Int) by omega]
        refine ⟨by unfold LxJ; exact ⟨by omega, P, P + 1, L, 5, 0, ⟨#[]⟩, oa, oc, rfl, rfl, rfl, rfl, rfl, rfl, rfl, Hid.mk (HS3.out _), fun h => by omega, fun h => by omega, fun h => by omega, fun _ => HN, fun h => by omega, fun h => by omega⟩, ?_⟩
        show lxN s 3 (P + 1) < lxN s 0 q
        exact lxN_lt hq (by first | exact .inl ⟨by omega, by omega⟩ | exact .inr ⟨rfl, by decide⟩)
      · rcases hk34 with hk | hk
        · subst hk
          have HN := Hid.mk (S4.out 3 HKK.out (.inl rfl))
          clear S1 S2 S3 S4 HKC
          go_wp2_with fail
          refine (HP.out _).mono ?_
          rintro e w' ⟨rfl, hw'⟩
          subst hw'
          go_wp2_with fail
          refine (HKD.out _ (HS.out.tl HSM.out)).mono ?_
          rintro e w' ⟨rfl, hw'⟩
          subst hw'
          have c0 := HS.out.bx.c0
          have c1 := HS.out.bx.c1
          have c2 := HS.out.bx.c2
          have f0 := HS.out.bx.fr 0
          have f1 := HS.out.bx.fr 1
          have f2 := HS.out.bx.fr 2
          have HS3 := Hid.mk (fun x => HS.out.s3 x 0 ⟨#[]⟩)
          clear HP HKD HS
          go_wp2
          go_step3
          rw [show (P : Int) + 1 = ((P + 1 : Nat) : Int) by omega]
          refine ⟨by unfold LxJ; exact ⟨by omega, P, P + 1, L, 3, 0, ⟨#[]⟩, oa, oc, rfl, rfl, rfl, rfl, rfl, rfl, rfl, Hid.mk (HS3.out _), fun h => by omega, fun h => by omega, fun h => by omega, fun h => by omega, fun _ => HN, fun h => by omega⟩, ?_⟩
          show lxN s 4 (P + 1) < lxN s 0 q
          exact lxN_lt hq (by first | exact .inl ⟨by omega, by omega⟩ | exact .inr ⟨rfl, by decide⟩)
        · subst hk
          have HN := Hid.mk (S4.out 4 HKK.out (.inr rfl))
          clear S1 S2 S3 S4 HKC
          go_wp2_with fail
          refine (HP.out _).mono ?_
          rintro e w' ⟨rfl, hw'⟩
          subst hw'
          go_wp2_with fail
          refine (HKD.out _ (HS.out.tl HSM.out)).mono ?_
          rintro e w' ⟨rfl, hw'⟩
          subst hw'
          have c0 := HS.out.bx.c0
          have c1 := HS.out.bx.c1
          have c2 := HS.out.bx.c2
          have f0 := HS.out.bx.fr 0
          have f1 := HS.out.bx.fr 1
          have f2 := HS.out.bx.fr 2
          have HS3 := Hid.mk (fun x => HS.out.s3 x 0 ⟨#[]⟩)
          clear HP HKD HS
          go_wp2
          go_step3
          rw [show (P : Int) + 1 = ((P + 1 : Nat) : Int) by omega]
          refine ⟨by unfold LxJ; exact ⟨by omega, P, P + 1, L, 4, 0, ⟨#[]⟩, oa, oc, rfl, rfl, rfl, rfl, rfl, rfl, rfl, Hid.mk (HS3.out _), fun h => by omega, fun h => by omega, fun h => by omega, fun h => by omega, fun _ => HN, fun h => by omega⟩, ?_⟩
          show lxN s 4 (P + 1) < lxN s 0 q
          exact lxN_lt hq (by first | exact .inl ⟨by omega, by omega⟩ | exact .inr ⟨rfl, by decide⟩)
  · intro a' W hJ
    unfold LxJ at hJ
    obtain ⟨-, p, q, L, k, n, ts, oa, oc, g1, g2, g3, g4, g5, g6, g7, HS, -, h1, -, -, -, -⟩ := hJ
    have HC := h1 rfl
    obtain ⟨U, rfl⟩ := frame121 a' _ _ _ _ _ g1 g2 g3 g4 g5 g6 g7
    clear h1 g1 g2 g3 g4 g5 g6 g7
    have hq : q ≤ s.size := HC.out.2.2.2.2.1
    have hp : p < q := HC.out.2.2.2.1
    have HNX := Hid.mk (fun h h' => C1.next HC.out h h')
    have HFN := Hid.mk (fun h => C1.fin HC.out h)
    by_cases hlt : q < s.size
    · have hbt := byte_txt s q hlt
      have hqi : (q : Int) < (s.size : Int) := by omega
      have HCL := Hid.mk (isDigit_any (bt s q))
      obtain ⟨c, hcc⟩ : ∃ c, bt s q = c := ⟨_, rfl⟩
      have hbt' : ((s[q].toNat : Nat) : Int) = c := hbt.trans hcc
      rw [hcc] at HCL HNX HFN
      clear hbt hcc
      cases hd : dgB c with
      | true =>
        have HN := Hid.mk (HNX.out hlt hd)
        rw [hd] at HCL
        clear HNX HFN hd HC
        go_wp2_with fail
        refine (HCL.out _).mono ?_
        rintro e w' ⟨rfl, hw'⟩
        subst hw'
        go_wp2
        go_step3
        rw [show (q : Int) + 1 = ((q + 1 : Nat) : Int) by omega]
        refine ⟨by unfold LxJ; exact ⟨by omega, p, q + 1, L, k, n, ts, oa, oc, rfl, rfl, rfl, rfl, rfl, rfl, rfl, HS, fun h => by omega, fun _ => HN, fun h => by omega, fun h => by omega, fun h => by omega, fun h => by omega⟩, ?_⟩
        show lxN s 1 (q + 1) < lxN s 1 q
        exact lxN_lt hq (by first | exact .inl ⟨by omega, by omega⟩ | exact .inr ⟨rfl, by decide⟩)
      | false =>
        have hfin := HFN.out (fun _ => hd)
        rw [hd] at HCL
        clear HNX HFN hd HC
        obtain ⟨hz, hu, h5⟩ := hfin
        have HN := Hid.mk h5
        have HPN := Hid.mk (fun W' ht he => plainNumber_any (s.extract p q) W' hz (by rw [ByteArray.size_extract]; omega) hu ht he)
        have hsl : ∀ w, (Instr.slice 9 (.string s) (some (.int .i64 (p : Int))) (some (.int .i64 (q : Int))) none).run Tryd.prog w = .ok (.string (s.extract p q)) w := fun w => by
          have := run_slice_string (P := Tryd.prog) w 9 s .i64 .i64 (p : Int) (q : Int) Tryd.underlying9 (by omega) (by omega) (by omega)
          rw [this]; rfl
        generalize s.extract p q = d at *
        generalize pnT d = pn at *
        clear hz hu h5
        go_wp2_with fail
        refine (HCL.out _).mono ?_
        rintro e w' ⟨rfl, hw'⟩
        subst hw'
        clear HCL
        go_wp2_with fail
        refine (HPN.out _ (HTB.out _ HS.out.b) (HER.out _ HS.out.b)).mono ?_
        rintro e w2 ⟨rfl, hb2⟩
        have HS2 := Hid.mk (HS.out.grow hb2)
        clear HPN hb2 HS
        have c0 := HS2.out.bx.c0
        have c1 := HS2.out.bx.c1
        have c2 := HS2.out.bx.c2
        have f0 := HS2.out.bx.fr 0
        have f1 := HS2.out.bx.fr 1
        have f2 := HS2.out.bx.fr 2
        have HS3 := Hid.mk (HS2.out.s1 pn)
        clear HS2
        go_wp2
        go_step3
        refine ⟨by unfold LxJ; exact ⟨by omega, p, q, L, k, pn, ts, oa, oc, rfl, rfl, rfl, rfl, rfl, rfl, rfl, HS3, fun h => by omega, fun h => by omega, fun h => by omega, fun h => by omega, fun h => by omega, fun _ => HN⟩, ?_⟩
        show lxN s 5 (q) < lxN s 1 q
        exact lxN_lt hq (by first | exact .inl ⟨by omega, by omega⟩ | exact .inr ⟨rfl, by decide⟩)
    · have hqi : ¬ (q : Int) < (s.size : Int) := by omega
      have hfin := HFN.out (fun h => absurd h hlt)
      clear HNX HFN HC
      obtain ⟨hz, hu, h5⟩ := hfin
      have HN := Hid.mk h5
      have HPN := Hid.mk (fun W' ht he => plainNumber_any (s.extract p q) W' hz (by rw [ByteArray.size_extract]; omega) hu ht he)
      have hsl : ∀ w, (Instr.slice 9 (.string s) (some (.int .i64 (p : Int))) (some (.int .i64 (q : Int))) none).run Tryd.prog w = .ok (.string (s.extract p q)) w := fun w => by
        have := run_slice_string (P := Tryd.prog) w 9 s .i64 .i64 (p : Int) (q : Int) Tryd.underlying9 (by omega) (by omega) (by omega)
        rw [this]; rfl
      generalize s.extract p q = d at *
      generalize pnT d = pn at *
      clear hz hu h5
      go_wp2_with fail
      refine (HPN.out _ (HTB.out _ HS.out.b) (HER.out _ HS.out.b)).mono ?_
      rintro e w2 ⟨rfl, hb2⟩
      have HS2 := Hid.mk (HS.out.grow hb2)
      clear HPN hb2 HS
      have c0 := HS2.out.bx.c0
      have c1 := HS2.out.bx.c1
      have c2 := HS2.out.bx.c2
      have f0 := HS2.out.bx.fr 0
      have f1 := HS2.out.bx.fr 1
      have f2 := HS2.out.bx.fr 2
      have HS3 := Hid.mk (HS2.out.s1 pn)
      clear HS2
      go_wp2
      go_step3
      refine ⟨by unfold LxJ; exact ⟨by omega, p, q, L, k, pn, ts, oa, oc, rfl, rfl, rfl, rfl, rfl, rfl, rfl, HS3, fun h => by omega, fun h => by omega, fun h => by omega, fun h => by omega, fun h => by omega, fun _ => HN⟩, ?_⟩
      show lxN s 5 (q) < lxN s 1 q
      exact lxN_lt hq (by first | exact .inl ⟨by omega, by omega⟩ | exact .inr ⟨rfl, by decide⟩)
  · intro a' W hJ
    unfold LxJ at hJ
    obtain ⟨-, p, q, L, k, n, ts, oa, oc, g1, g2, g3, g4, g5, g6, g7, HS, -, -, h2, -, -, -⟩ := hJ
    have HC := h2 rfl
    obtain ⟨U, rfl⟩ := frame121 a' _ _ _ _ _ g1 g2 g3 g4 g5 g6 g7
    clear h2 g1 g2 g3 g4 g5 g6 g7
    have hq : q ≤ s.size := HC.out.2.2.2.2.1
    have hp : p < q := HC.out.2.2.2.1
    have HNX := Hid.mk (fun h h' => C2.next HC.out h h')
    have HFN := Hid.mk (fun h => C2.fin HC.out h)
    by_cases hlt : q < s.size
    · have hbt := byte_txt s q hlt
      have hqi : (q : Int) < (s.size : Int) := by omega
      have HCL := Hid.mk (isNameByte_any (bt s q))
      obtain ⟨c, hcc⟩ : ∃ c, bt s q = c := ⟨_, rfl⟩
      have hbt' : ((s[q].toNat : Nat) : Int) = c := hbt.trans hcc
      rw [hcc] at HCL HNX HFN
      clear hbt hcc
      cases hd : nbB c with
      | true =>
        have HN := Hid.mk (HNX.out hlt hd)
        rw [hd] at HCL
        clear HNX HFN hd HC
        go_wp2_with fail
        refine (HCL.out _).mono ?_
        rintro e w' ⟨rfl, hw'⟩
        subst hw'
        go_wp2
        go_step3
        rw [show (q : Int) + 1 = ((q + 1 : Nat) : Int) by omega]
        refine ⟨by unfold LxJ; exact ⟨by omega, p, q + 1, L, k, n, ts, oa, oc, rfl, rfl, rfl, rfl, rfl, rfl, rfl, HS, fun h => by omega, fun h => by omega, fun _ => HN, fun h => by omega, fun h => by omega, fun h => by omega⟩, ?_⟩
        show lxN s 2 (q + 1) < lxN s 2 q
        exact lxN_lt hq (by first | exact .inl ⟨by omega, by omega⟩ | exact .inr ⟨rfl, by decide⟩)
      | false =>
        have hfin := HFN.out (fun _ => hd)
        rw [hd] at HCL
        clear HNX HFN hd HC
        have HN := Hid.mk hfin
        have hsl : ∀ w, (Instr.slice 9 (.string s) (some (.int .i64 (p : Int))) (some (.int .i64 (q : Int))) none).run Tryd.prog w = .ok (.string (s.extract p q)) w := fun w => by
          have := run_slice_string (P := Tryd.prog) w 9 s .i64 .i64 (p : Int) (q : Int) Tryd.underlying9 (by omega) (by omega) (by omega)
          rw [this]; rfl
        generalize s.extract p q = d at *
        clear hfin
        have c0 := HS.out.bx.c0
        have c1 := HS.out.bx.c1
        have c2 := HS.out.bx.c2
        have f0 := HS.out.bx.fr 0
        have f1 := HS.out.bx.fr 1
        have f2 := HS.out.bx.fr 2
        have HS3 := Hid.mk (HS.out.s2 d)
        clear HS
        go_wp2_with fail
        refine (HCL.out _).mono ?_
        rintro e w' ⟨rfl, hw'⟩
        subst hw'
        clear HCL
        go_wp2
        go_step3
        refine ⟨by unfold LxJ; exact ⟨by omega, p, q, L, k, n, d, oa, oc, rfl, rfl, rfl, rfl, rfl, rfl, rfl, HS3, fun h => by omega, fun h => by omega, fun h => by omega, fun h => by omega, fun h => by omega, fun _ => HN⟩, ?_⟩
        show lxN s 5 (q) < lxN s 2 q
        exact lxN_lt hq (by first | exact .inl ⟨by omega, by omega⟩ | exact .inr ⟨rfl, by decide⟩)
    · have hqi : ¬ (q : Int) < (s.size : Int) := by omega
      have hfin := HFN.out (fun h => absurd h hlt)
      clear HNX HFN HC
      have HN := Hid.mk hfin
      have hsl : ∀ w, (Instr.slice 9 (.string s) (some (.int .i64 (p : Int))) (some (.int .i64 (q : Int))) none).run Tryd.prog w = .ok (.string (s.extract p q)) w := fun w => by
        have := run_slice_string (P := Tryd.prog) w 9 s .i64 .i64 (p : Int) (q : Int) Tryd.underlying9 (by omega) (by omega) (by omega)
        rw [this]; rfl
      generalize s.extract p q = d at *
      clear hfin
      have c0 := HS.out.bx.c0
      have c1 := HS.out.bx.c1
      have c2 := HS.out.bx.c2
      have f0 := HS.out.bx.fr 0
      have f1 := HS.out.bx.fr 1
      have f2 := HS.out.bx.fr 2
      have HS3 := Hid.mk (HS.out.s2 d)
      clear HS
      go_wp2
      go_step3
      refine ⟨by unfold LxJ; exact ⟨by omega, p, q, L, k, n, d, oa, oc, rfl, rfl, rfl, rfl, rfl, rfl, rfl, HS3, fun h => by omega, fun h => by omega, fun h => by omega, fun h => by omega, fun h => by omega, fun _ => HN⟩, ?_⟩
      show lxN s 5 (q) < lxN s 2 q
      exact lxN_lt hq (by first | exact .inl ⟨by omega, by omega⟩ | exact .inr ⟨rfl, by decide⟩)
  · intro a' W hJ
    unfold LxJ at hJ
    obtain ⟨-, p, q, L, k, n, ts, oa, oc, g1, g2, g3, g4, g5, g6, g7, HS, -, -, -, h3, -, -⟩ := hJ
    have HC := h3 rfl
    obtain ⟨U, rfl⟩ := frame121 a' _ _ _ _ _ g1 g2 g3 g4 g5 g6 g7
    clear h3 g1 g2 g3 g4 g5 g6 g7
    obtain ⟨hz0, hz1, hz2, h5⟩ := C3.fin HC.out
    have hq1 : q = p + 1 := HC.out.2.2.2
    have hq : q ≤ s.size := by omega
    have HN := Hid.mk h5
    have HMS : Hid (∀ W, Calls Tryd.prog 27 #[.string (s.extract p s.size)] W fun e w' => e = .returned (.int .i64 ((mkZ s p : Nat) : Int)) ∧ w' = W) := fun W => (markSize_any (s.extract p s.size) W (by have := HSM.out; rw [ByteArray.size_extract]; unfold maxLen at *; omega)).mono (by
      rintro e w' ⟨rfl, hw⟩
      refine ⟨?_, hw⟩
      unfold mkZ
      split <;> rfl)
    have hsl0 : ∀ w, (Instr.slice 9 (.string s) (some (.int .i64 (p : Int))) none none).run Tryd.prog w = .ok (.string (s.extract p s.size)) w := fun w => by
      have := run_slice_string_l (P := Tryd.prog) w 9 s Tryd.underlying9 .i64 (p : Int) (by omega) (by omega)
      rw [this]; rfl
    generalize mkZ s p = z at *
    have hsl : ∀ w, (Instr.slice 9 (.string s) (some (.int .i64 (p : Int))) (some (.int .i64 ((p : Int) + (z : Int)))) none).run Tryd.prog w = .ok (.string (s.extract p (p + z))) w := fun w => by
      have := run_slice_string (P := Tryd.prog) w 9 s .i64 .i64 (p : Int) ((p : Int) + (z : Int)) Tryd.underlying9 (by omega) (by omega) (by omega)
      rw [this]
      congr 2
    generalize s.extract p (p + z) = d at *
    generalize s.extract p s.size = d0 at *
    have HS3 := Hid.mk (HS.out.s2 d)
    have c0 := HS.out.bx.c0
    have c1 := HS.out.bx.c1
    have c2 := HS.out.bx.c2
    have f0 := HS.out.bx.fr 0
    have f1 := HS.out.bx.fr 1
    have f2 := HS.out.bx.fr 2
    clear HC h5 HS
    go_wp2_with fail
    refine (HMS.out _).mono ?_
    rintro e w' ⟨rfl, hw'⟩
    subst hw'
    clear HMS
    go_wp2
    go_step3
    rw [show (p : Int) + (z : Int) = ((p + z : Nat) : Int) by omega]
    subst hq1
    refine ⟨by unfold LxJ; exact ⟨by omega, p, p + z, L, k, n, d, oa, oc, rfl, rfl, rfl, rfl, rfl, rfl, rfl, HS3, fun h => by omega, fun h => by omega, fun h => by omega, fun h => by omega, fun h => by omega, fun _ => HN⟩, ?_⟩
    show lxN s 5 (p + z) < lxN s 3 (p + 1)
    exact lxN_lt hq (by rcases Nat.lt_or_ge 1 z with h | h; exact .inl ⟨by omega, by omega⟩; exact .inr ⟨by omega, by decide⟩)
  · intro a' W hJ
    unfold LxJ at hJ
    obtain ⟨-, p, q, L, k, n, ts, oa, oc, g1, g2, g3, g4, g5, g6, g7, HS, -, -, -, -, h4, -⟩ := hJ
    have HC := h4 rfl
    obtain ⟨U, rfl⟩ := frame121 a' _ _ _ _ _ g1 g2 g3 g4 g5 g6 g7
    clear h4 g1 g2 g3 g4 g5 g6 g7
    have hq : q ≤ s.size := HC.out.2.2.2.2.1
    have hp : p < q := HC.out.2.2.2.1
    by_cases hlt : q < s.size
    · have hee : ((q : Int) == (s.size : Int)) = false := by simp; omega
      have hbt := byte_txt s q hlt
      have hbp := byte_txt s p (by omega)
      have hqi : (q : Int) < (s.size : Int) := by omega
      have hpi : (p : Int) < (s.size : Int) := by omega
      have HNX := Hid.mk (fun h => C4.next HC.out hlt h)
      have HFN := Hid.mk (fun h => C4.fin HC.out hlt h)
      obtain ⟨c, hcc⟩ : ∃ c, bt s q = c := ⟨_, rfl⟩
      obtain ⟨d, hdd⟩ : ∃ d, bt s p = d := ⟨_, rfl⟩
      have hbt' : ((s[q].toNat : Nat) : Int) = c := hbt.trans hcc
      have hbp' : ((s[p].toNat : Nat) : Int) = d := hbp.trans hdd
      rw [hcc, hdd] at HNX HFN
      clear hbt hbp hcc hdd HC
      by_cases hne : c = d
      · have hcmp : (c != d) = false := by simpa using hne
        obtain ⟨hpq, h5⟩ := HFN.out hne
        have HC5 := Hid.mk h5
        have hsl : ∀ w, (Instr.slice 9 (.string s) (some (.int .i64 ((p : Int) + 1))) (some (.int .i64 (q : Int))) none).run Tryd.prog w = .ok (.string (s.extract (p + 1) q)) w := fun w => by
          have := run_slice_string (P := Tryd.prog) w 9 s .i64 .i64 ((p : Int) + 1) (q : Int) Tryd.underlying9 (by omega) (by omega) (by omega)
          rw [this]; rfl
        generalize s.extract (p + 1) q = x at *
        clear hne HNX HFN h5
        go_wp2_with fail
        refine wp_region_quiet_below (by kernel_rfl) (by kernel_rfl) ?_
        quiet_step (fail)
        quiet_step (fail)
        quiet_step (fail)
        quiet_step (fail)
        quiet_step (fail)
        quiet_step (fail)
        quiet_step (fail)
        refine wpQuiet_nil ?_
        intro w6 hw'
        obtain ⟨⟨dq, osq⟩, hw''⟩ := hw'
        have hb6 : Below W.heap.size W w6 := by rw [hw'']; exact below_regrown _ _ _
        have HS6 := Hid.mk (HS.out.grow hb6)
        clear hw'' hb6 HS
        have HSx := Hid.mk (HS6.out.s2 x)
        have c0 := HS6.out.bx.c0
        have c1 := HS6.out.bx.c1
        have c2 := HS6.out.bx.c2
        have f0 := HS6.out.bx.fr 0
        have f1 := HS6.out.bx.fr 1
        have f2 := HS6.out.bx.fr 2
        clear HS6
        go_wp2
        go_step3
        rw [show (q : Int) + 1 = ((q + 1 : Nat) : Int) by omega]
        obtain ⟨ts, hts⟩ : ∃ ts, x = ts := ⟨_, rfl⟩
        rw [hts] at HC5 HSx hsl ⊢
        clear hts hsl c0 c1 c2 f0 f1 f2
        obtain ⟨hqs, hps, htz⟩ := HC5.out.q
        have HTO := Hid.mk (fun W' => implTokenOk_any k n ts W' (by have := HSM.out; unfold maxLen at *; omega))
        have HBAD := Hid.mk (fun h => C5.bad HC5.out h)
        have HON := Hid.mk (fun h h' => C5.on HC5.out h h')
        have hL2 := HSx.out.len
        have hLc := HSx.out.cap
        have c0 := HSx.out.bx.c0
        have c1 := HSx.out.bx.c1
        have c2 := HSx.out.bx.c2
        have f0 := HSx.out.bx.fr 0
        have f1 := HSx.out.bx.fr 1
        have f2 := HSx.out.bx.fr 2
        have HTZ := Hid.mk htz
        have htm : ts.size ≤ 1048576 := by omega
        clear HC5 htz
        cases htb : tokB k n ts with
        | false =>
          have hbad := HBAD.out (.inl htb)
          have hlit := Hid.mk (HRES.out.symm.trans hbad)
          rw [htb] at HTO
          clear HBAD HON hbad htb
          go_wp2_with fail
          refine (HTO.out _).mono ?_
          rintro e w2 ⟨rfl, hb2⟩
          have HS2 := Hid.mk (HSx.out.grow hb2)
          have O4 : Hid (OwnK (w2.alloc (.cells #[] 31)) w.heap.size (.slice (some ⟨w2.heap.size, 0, none⟩) 0 0) []) := World.ownsRow_lit w2 #[] 0 HS2.out.b.size (by decide) rfl
          have B4 : Hid (Below w.heap.size w (w2.alloc (.cells #[] 31))) := HS2.out.b.alloc HS2.out.b.size _
          clear HS2 hb2 HTO c0 c1 c2 f0 f1 f2
          go_wp2
          simp only [Jmp]
          refine bodyPost_ret (v := .tuple #[.slice (some ⟨w2.heap.size, 0, none⟩) 0 0, .int .i64 (p : Int)]) (by simp [results, Tryd.results8, go_sem]) rfl ⟨_, by rw [hlit.out], by rw [hlit.out]; exact O4.out, B4.out⟩
        | true =>
          rw [htb] at HTO
          by_cases h2000 : L.length = 2000
          · have hbad := HBAD.out (.inr h2000)
            have hlit := Hid.mk (HRES.out.symm.trans hbad)
            have h2i : ((L.length : Int) == 2000) = true := by simp; omega
            clear HBAD HON hbad htb
            go_wp2_with fail
            refine (HTO.out _).mono ?_
            rintro e w2 ⟨rfl, hb2⟩
            have HS2 := Hid.mk (HSx.out.grow hb2)
            have O4 : Hid (OwnK (w2.alloc (.cells #[] 31)) w.heap.size (.slice (some ⟨w2.heap.size, 0, none⟩) 0 0) []) := World.ownsRow_lit w2 #[] 0 HS2.out.b.size (by decide) rfl
            have B4 : Hid (Below w.heap.size w (w2.alloc (.cells #[] 31))) := HS2.out.b.alloc HS2.out.b.size _
            clear HS2 hb2 HTO c0 c1 c2 f0 f1 f2
            go_wp2
            simp only [Jmp]
            refine bodyPost_ret (v := .tuple #[.slice (some ⟨w2.heap.size, 0, none⟩) 0 0, .int .i64 (p : Int)]) (by simp [results, Tryd.results8, go_sem]) rfl ⟨_, by rw [hlit.out], by rw [hlit.out]; exact O4.out, B4.out⟩
          · have HN := Hid.mk (HON.out htb h2000)
            have HTK := Hid.mk htb
            have H20 := Hid.mk h2000
            have h2i : ((L.length : Int) == 2000) = false := by simp; omega
            clear HBAD HON htb h2000
            go_wp2_with fail
            refine (HTO.out _).mono ?_
            rintro e w2 ⟨rfl, hb2⟩
            have HS2 := Hid.mk (HSx.out.grow hb2)
            clear hb2 HTO c0 c1 c2 f0 f1 f2 HSx
            have c0 := HS2.out.bx.c0
            have c1 := HS2.out.bx.c1
            have c2 := HS2.out.bx.c2
            have f0 := HS2.out.bx.fr 0
            have f1 := HS2.out.bx.fr 1
            have f2 := HS2.out.bx.fr 2
            go_wp2_with fail
            refine (clone_any ts _ htm).mono ?_
            rintro e w3 ⟨rfl, hb3⟩
            have HS3 := Hid.mk (HS2.out.grow hb3)
            clear hb3 HS2 c0 c1 c2 f0 f1 f2
            have c0 := HS3.out.bx.c0
            have c1 := HS3.out.bx.c1
            have c2 := HS3.out.bx.c2
            have f0 := HS3.out.bx.fr 0
            have f1 := HS3.out.bx.fr 1
            have f2 := HS3.out.bx.fr 2
            have HS4 := Hid.mk (HS3.out.s2 ts)
            have hsz : (w3.setCell ⟨w.heap.size + 1, 2, none⟩ (.string ts)).heap.size = w3.heap.size := by simp
            have BL : Below (w3.setCell ⟨w.heap.size + 1, 2, none⟩ (.string ts)).heap.size (w3.setCell ⟨w.heap.size + 1, 2, none⟩ (.string ts)) ((w3.setCell ⟨w.heap.size + 1, 2, none⟩ (.string ts)).alloc (.cells #[.int .i64 k, .int .i64 n, .string ts] 31)) := (Below.refl _ _).alloc (Nat.le_refl _) _
            have HS5 := Hid.mk (HS4.out.grow BL)
            have HN1 : Hid (((w3.setCell ⟨w.heap.size + 1, 2, none⟩ (.string ts)).alloc (.cells #[.int .i64 k, .int .i64 n, .string ts] 31)).heap[w3.heap.size]? = some (.cells #[.int .i64 k, .int .i64 n, .string ts] 31 (0, 0))) := by
              have := heap_alloc_new (w3.setCell ⟨w.heap.size + 1, 2, none⟩ (.string ts)) (.cells #[.int .i64 k, .int .i64 n, .string ts] 31)
              rw [hsz] at this
              exact this
            have hge : w.heap.size ≤ w3.heap.size + 1 := by have := HS3.out.b.size; omega
            clear HS3 HS4 BL hsz
            go_wp2_with (at_builtin; refine wpList_append_k (w0 := w) rfl _ _ rfl w.heap.size _ L ⟨k, n, ts⟩ rfl HS5.out.own _ rfl HN1.out HS5.out.b (by simp; omega) (by omega) ?_)
            intro v5 w5 hown5 hbel5 hq5 hn5
            obtain ⟨va, vc, hv5, hvc⟩ := hown5.lenV
            subst hv5
            have HSN := Hid.mk (HS5.out.snoc hown5 hbel5 hn5 H20.out HTK.out HTZ.out hvc)
            obtain ⟨L', hL'⟩ : ∃ L', L ++ [(⟨k, n, ts⟩ : Tk)] = L' := ⟨_, rfl⟩
            rw [hL'] at HSN HN ⊢
            clear hown5 hbel5 hq5 hn5 hvc hL' HS5 HN1 H20 HTK HTZ h2i c0 c1 c2 f0 f1 f2 hge
            go_wp2
            go_step3
            refine ⟨by unfold LxJ; exact ⟨by omega, p, q + 1, L', k, n, ts, va, vc, rfl, rfl, rfl, rfl, rfl, rfl, rfl, HSN, fun _ => HN, fun h => by omega, fun h => by omega, fun h => by omega, fun h => by omega, fun h => by omega⟩, ?_⟩
            show lxN s 0 (q + 1) < lxN s 4 q
            exact lxN_lt hq (by first | exact .inl ⟨by omega, by omega⟩ | exact .inr ⟨rfl, by decide⟩)
      · have hcmp : (c != d) = true := by simpa using hne
        have HN := Hid.mk (HNX.out hne)
        clear hne HNX HFN
        go_wp2_with fail
        refine wp_region_quiet_below (by kernel_rfl) (by kernel_rfl) ?_
        quiet_step (fail)
        quiet_step (fail)
        quiet_step (fail)
        quiet_step (fail)
        quiet_step (fail)
        quiet_step (fail)
        quiet_step (fail)
        refine wpQuiet_nil ?_
        intro w6 hw'
        obtain ⟨⟨dq, osq⟩, hw''⟩ := hw'
        have hb6 : Below W.heap.size W w6 := by rw [hw'']; exact below_regrown _ _ _
        have HS6 := Hid.mk (HS.out.grow hb6)
        clear hw'' hb6 HS
        go_wp2
        go_step3
        rw [show (q : Int) + 1 = ((q + 1 : Nat) : Int) by omega]
        refine ⟨by unfold LxJ; exact ⟨by omega, p, q + 1, L, k, n, ts, oa, oc, rfl, rfl, rfl, rfl, rfl, rfl, rfl, HS6, fun h => by omega, fun h => by omega, fun h => by omega, fun h => by omega, fun _ => HN, fun h => by omega⟩, ?_⟩
        show lxN s 4 (q + 1) < lxN s 4 q
        exact lxN_lt hq (by first | exact .inl ⟨by omega, by omega⟩ | exact .inr ⟨rfl, by decide⟩)
    · have hee : ((q : Int) == (s.size : Int)) = true := by simp; omega
      obtain rfl : q = s.size := by omega
      have hlit := Hid.mk (HRES.out.symm.trans (C4.bad HC.out))
      have O4 : Hid (OwnK (W.alloc (.cells #[] 31)) w.heap.size (.slice (some ⟨W.heap.size, 0, none⟩) 0 0) []) := World.ownsRow_lit W #[] 0 HS.out.b.size (by decide) rfl
      have B4 : Hid (Below w.heap.size w (W.alloc (.cells #[] 31))) := HS.out.b.alloc HS.out.b.size _
      clear HC HS
      go_wp2
      simp only [Jmp]
      refine bodyPost_ret (v := .tuple #[.slice (some ⟨W.heap.size, 0, none⟩) 0 0, .int .i64 (p : Int)]) (by simp [results, Tryd.results8, go_sem]) rfl ⟨_, by rw [hlit.out], by rw [hlit.out]; exact O4.out, B4.out⟩
  · intro a' W hJ
    unfold LxJ at hJ
    obtain ⟨-, p, q, L, k, n, ts, oa, oc, g1, g2, g3, g4, g5, g6, g7, HS, -, -, -, -, -, h5⟩ := hJ
    have HC := h5 rfl
    obtain ⟨U, rfl⟩ := frame121 a' _ _ _ _ _ g1 g2 g3 g4 g5 g6 g7
    clear h5 g1 g2 g3 g4 g5 g6 g7
    have HC5 := Hid.mk HC.out
    have hq : q ≤ s.size := HC.out.q.1
    clear HC

    obtain ⟨hqs, hps, htz⟩ := HC5.out.q
    have HTO := Hid.mk (fun W' => implTokenOk_any k n ts W' (by have := HSM.out; unfold maxLen at *; omega))
    have HBAD := Hid.mk (fun h => C5.bad HC5.out h)
    have HON := Hid.mk (fun h h' => C5.on HC5.out h h')
    have hL2 := HS.out.len
    have hLc := HS.out.cap
    have c0 := HS.out.bx.c0
    have c1 := HS.out.bx.c1
    have c2 := HS.out.bx.c2
    have f0 := HS.out.bx.fr 0
    have f1 := HS.out.bx.fr 1
    have f2 := HS.out.bx.fr 2
    have HTZ := Hid.mk htz
    have htm : ts.size ≤ 1048576 := by omega
    clear HC5 htz
    cases htb : tokB k n ts with
    | false =>
      have hbad := HBAD.out (.inl htb)
      have hlit := Hid.mk (HRES.out.symm.trans hbad)
      rw [htb] at HTO
      clear HBAD HON hbad htb
      go_wp2_with fail
      refine (HTO.out _).mono ?_
      rintro e w2 ⟨rfl, hb2⟩
      have HS2 := Hid.mk (HS.out.grow hb2)
      have O4 : Hid (OwnK (w2.alloc (.cells #[] 31)) w.heap.size (.slice (some ⟨w2.heap.size, 0, none⟩) 0 0) []) := World.ownsRow_lit w2 #[] 0 HS2.out.b.size (by decide) rfl
      have B4 : Hid (Below w.heap.size w (w2.alloc (.cells #[] 31))) := HS2.out.b.alloc HS2.out.b.size _
      clear HS2 hb2 HTO c0 c1 c2 f0 f1 f2
      go_wp2
      simp only [Jmp]
      refine bodyPost_ret (v := .tuple #[.slice (some ⟨w2.heap.size, 0, none⟩) 0 0, .int .i64 (p : Int)]) (by simp [results, Tryd.results8, go_sem]) rfl ⟨_, by rw [hlit.out], by rw [hlit.out]; exact O4.out, B4.out⟩
    | true =>
      rw [htb] at HTO
      by_cases h2000 : L.length = 2000
      · have hbad := HBAD.out (.inr h2000)
        have hlit := Hid.mk (HRES.out.symm.trans hbad)
        have h2i : ((L.length : Int) == 2000) = true := by simp; omega
        clear HBAD HON hbad htb
        go_wp2_with fail
        refine (HTO.out _).mono ?_
        rintro e w2 ⟨rfl, hb2⟩
        have HS2 := Hid.mk (HS.out.grow hb2)
        have O4 : Hid (OwnK (w2.alloc (.cells #[] 31)) w.heap.size (.slice (some ⟨w2.heap.size, 0, none⟩) 0 0) []) := World.ownsRow_lit w2 #[] 0 HS2.out.b.size (by decide) rfl
        have B4 : Hid (Below w.heap.size w (w2.alloc (.cells #[] 31))) := HS2.out.b.alloc HS2.out.b.size _
        clear HS2 hb2 HTO c0 c1 c2 f0 f1 f2
        go_wp2
        simp only [Jmp]
        refine bodyPost_ret (v := .tuple #[.slice (some ⟨w2.heap.size, 0, none⟩) 0 0, .int .i64 (p : Int)]) (by simp [results, Tryd.results8, go_sem]) rfl ⟨_, by rw [hlit.out], by rw [hlit.out]; exact O4.out, B4.out⟩
      · have HN := Hid.mk (HON.out htb h2000)
        have HTK := Hid.mk htb
        have H20 := Hid.mk h2000
        have h2i : ((L.length : Int) == 2000) = false := by simp; omega
        clear HBAD HON htb h2000
        go_wp2_with fail
        refine (HTO.out _).mono ?_
        rintro e w2 ⟨rfl, hb2⟩
        have HS2 := Hid.mk (HS.out.grow hb2)
        clear hb2 HTO c0 c1 c2 f0 f1 f2 HS
        have c0 := HS2.out.bx.c0
        have c1 := HS2.out.bx.c1
        have c2 := HS2.out.bx.c2
        have f0 := HS2.out.bx.fr 0
        have f1 := HS2.out.bx.fr 1
        have f2 := HS2.out.bx.fr 2
        go_wp2_with fail
        refine (clone_any ts _ htm).mono ?_
        rintro e w3 ⟨rfl, hb3⟩
        have HS3 := Hid.mk (HS2.out.grow hb3)
        clear hb3 HS2 c0 c1 c2 f0 f1 f2
        have c0 := HS3.out.bx.c0
        have c1 := HS3.out.bx.c1
        have c2 := HS3.out.bx.c2
        have f0 := HS3.out.bx.fr 0
        have f1 := HS3.out.bx.fr 1
        have f2 := HS3.out.bx.fr 2
        have HS4 := Hid.mk (HS3.out.s2 ts)
        have hsz : (w3.setCell ⟨w.heap.size + 1, 2, none⟩ (.string ts)).heap.size = w3.heap.size := by simp
        have BL : Below (w3.setCell ⟨w.heap.size + 1, 2, none⟩ (.string ts)).heap.size (w3.setCell ⟨w.heap.size + 1, 2, none⟩ (.string ts)) ((w3.setCell ⟨w.heap.size + 1, 2, none⟩ (.string ts)).alloc (.cells #[.int .i64 k, .int .i64 n, .string ts] 31)) := (Below.refl _ _).alloc (Nat.le_refl _) _
        have HS5 := Hid.mk (HS4.out.grow BL)
        have HN1 : Hid (((w3.setCell ⟨w.heap.size + 1, 2, none⟩ (.string ts)).alloc (.cells #[.int .i64 k, .int .i64 n, .string ts] 31)).heap[w3.heap.size]? = some (.cells #[.int .i64 k, .int .i64 n, .string ts] 31 (0, 0))) := by
          have := heap_alloc_new (w3.setCell ⟨w.heap.size + 1, 2, none⟩ (.string ts)) (.cells #[.int .i64 k, .int .i64 n, .string ts] 31)
          rw [hsz] at this
          exact this
        have hge : w.heap.size ≤ w3.heap.size + 1 := by have := HS3.out.b.size; omega
        clear HS3 HS4 BL hsz
        go_wp2_with (at_builtin; refine wpList_append_k (w0 := w) rfl _ _ rfl w.heap.size _ L ⟨k, n, ts⟩ rfl HS5.out.own _ rfl HN1.out HS5.out.b (by simp; omega) (by omega) ?_)
        intro v5 w5 hown5 hbel5 hq5 hn5
        obtain ⟨va, vc, hv5, hvc⟩ := hown5.lenV
        subst hv5
        have HSN := Hid.mk (HS5.out.snoc hown5 hbel5 hn5 H20.out HTK.out HTZ.out hvc)
        obtain ⟨L', hL'⟩ : ∃ L', L ++ [(⟨k, n, ts⟩ : Tk)] = L' := ⟨_, rfl⟩
        rw [hL'] at HSN HN ⊢
        clear hown5 hbel5 hq5 hn5 hvc hL' HS5 HN1 H20 HTK HTZ h2i c0 c1 c2 f0 f1 f2 hge
        go_wp2
        go_step3
        refine ⟨by unfold LxJ; exact ⟨by omega, p, q, L', k, n, ts, va, vc, rfl, rfl, rfl, rfl, rfl, rfl, rfl, HSN, fun _ => HN, fun h => by omega, fun h => by omega, fun h => by omega, fun h => by omega, fun h => by omega⟩, ?_⟩
        show lxN s 0 (q) < lxN s 5 q
        exact lxN_lt hq (by first | exact .inl ⟨by omega, by omega⟩ | exact .inr ⟨rfl, by decide⟩)
end Go.Proofs.YtapcbblfcmdbnaaDoor
