/- What the model's Spread answers, whole. -/
import Derived.Test.YteomhjoodnjfbaaSpecSpread
namespace Go.Proofs.Yteomhjoodnjfbaa
open Go.RowKit
set_option maxRecDepth 8000

theorem Ris.ext : ∀ {a b : List Int}, Ris a → Ris b → (∀ j, j ∈ a ↔ j ∈ b) → a = b
  | [], [], _, _, _ => rfl
  | [], y :: b, _, _, h => absurd ((h y).2 (by simp)) (by simp)
  | x :: a, [], _, _, h => absurd ((h x).1 (by simp)) (by simp)
  | x :: a, y :: b, ha, hb, h => by
    unfold Ris at ha hb
    rw [List.pairwise_cons] at ha hb
    have hxy : x = y := by
      rcases List.mem_cons.1 ((h x).1 (by simp)) with h1 | h1
      · exact h1
      · rcases List.mem_cons.1 ((h y).2 (by simp)) with h2 | h2
        · exact h2.symm
        · have := ha.1 y h2; have := hb.1 x h1; omega
    subst hxy
    rw [Ris.ext (a := a) (b := b) ha.2 hb.2 fun j => ?_]
    constructor
    · intro hj
      rcases List.mem_cons.1 ((h j).1 (List.mem_cons_of_mem _ hj)) with h1 | h1
      · subst h1; have := ha.1 j hj; omega
      · exact h1
    · intro hj
      rcases List.mem_cons.1 ((h j).2 (List.mem_cons_of_mem _ hj)) with h1 | h1
      · subst h1; have := hb.1 j hj; omega
      · exact h1
theorem mkL_ris (M : Nat → Bool) (n : Nat) : Ris (mkL M n) := by
  unfold Ris mkL
  rw [List.pairwise_map]
  exact (List.pairwise_lt_range.filter M).imp fun h => by omega
theorem mkL_mem (M : Nat → Bool) (n : Nat) (j : Int) : j ∈ mkL M n ↔ ∃ q : Nat, j = (q : Int) ∧ q < n ∧ M q = true := by
  unfold mkL
  rw [List.mem_map]
  constructor
  · rintro ⟨q, hq, rfl⟩
    rw [List.mem_filter, List.mem_range] at hq
    exact ⟨q, rfl, hq.1, hq.2⟩
  · rintro ⟨q, rfl, h1, h2⟩
    exact ⟨q, List.mem_filter.2 ⟨List.mem_range.2 h1, h2⟩, rfl⟩

/-- Reached, and with all that it was begun with. -/
def Mid (N : List Nd) (l : List Int) (p z : Int) (ys : List Int) : Prop :=
  Ris ys ∧ inN N.length ys ∧ (∀ j : Nat, inS l N.length j → (j : Int) ∈ ys) ∧ ∀ j ∈ ys, Rch N (p == 0) (p == z) (inS l N.length) j.toNat
/-- Nothing new is gone on to. -/
def Clo (N : List Nd) (p z : Int) (ys : List Int) : Prop := ∀ q ∈ ys, ∀ r ∈ fol (p == 0) (p == z) (ndAt N q.toNat), r ∈ ys
theorem folK_mem (N : List Nd) (ab ae : Bool) (xs : List Int) (j : Int) : j ∈ folK N ab ae xs xs.length ↔ ∃ q ∈ xs, j ∈ fol ab ae (ndAt N q.toNat) := by
  unfold folK
  rw [List.take_length, List.mem_flatMap]
theorem Mid.next {N : List Nd} {l : List Int} {p z : Int} {xs ys : List Int} (hok : okNfa N = true) (h : Mid N l p z xs) (k : PutsL xs ys (folK N (p == 0) (p == z) xs xs.length)) : Mid N l p z ys ∧ (ys.length = xs.length → Clo N p z ys) := by
  obtain ⟨h1, h2, h3, h4⟩ := h
  have hin : inN N.length ys := h2.put (fun j hj => by
    obtain ⟨q, hq, hj⟩ := (folK_mem _ _ _ _ _).1 hj
    exact fol_inN hok (h2 q hq) j hj) k
  refine ⟨⟨k.1, hin, fun j hj => (k.2.1 _).2 (.inl (h3 j hj)), fun j hj => ?_⟩, fun he q hq r hr => ?_⟩
  · rcases (k.2.1 j).1 hj with hx | hx
    · exact h4 j hx
    · obtain ⟨q, hq, hr⟩ := (folK_mem _ _ _ _ _).1 hx
      have hb := fol_inN hok (h2 q hq) j hr
      exact .step (h4 q hq) (by rw [Int.toNat_of_nonneg hb.1]; exact hr)
  · exact (k.2.1 r).2 (.inr ((folK_mem _ _ _ _ _).2 ⟨q, k.2.2.2 he q hq, hr⟩))
theorem Mid.done {N : List Nd} {l : List Int} {p z : Int} {ys : List Int} (hok : okNfa N = true) (h : Mid N l p z ys) (hc : Clo N p z ys) : SprL N l p z ys := by
  obtain ⟨h1, h2, h3, h4⟩ := h
  have hM : ∀ j : Nat, decide ((j : Int) ∈ ys) = true ↔ Rch N (p == 0) (p == z) (inS l N.length) j := by
    intro j
    rw [decide_eq_true_eq]
    constructor
    · intro hj
      simpa using h4 _ hj
    · intro hr
      exact hr.closed (M := fun j => (j : Int) ∈ ys) h3 fun q r hq hr => hc _ hq _ (by simpa using hr)
  refine .inr ⟨hok, fun j => decide ((j : Int) ∈ ys), Ris.ext h1 (mkL_ris _ _) fun j => ?_, hM⟩
  rw [mkL_mem]
  constructor
  · intro hj
    have := h2 j hj
    exact ⟨j.toNat, by omega, by omega, by rw [decide_eq_true_eq, Int.toNat_of_nonneg this.1]; exact hj⟩
  · rintro ⟨q, rfl, _, hq⟩
    simpa using hq
/-- The first k of l that are nodes. -/
def Got (l : List Int) (n k : Nat) (ys : List Int) : Prop := Ris ys ∧ ∀ j, j ∈ ys ↔ j ∈ l.take k ∧ 0 ≤ j ∧ j < n
theorem Got.zero (l : List Int) (n : Nat) : Got l n 0 [] := ⟨List.Pairwise.nil, fun j => by simp⟩
theorem Got.yes {l : List Int} {n k : Nat} {ys zs : List Int} (h : Got l n k ys) (hk : k < l.length) (hp : 0 ≤ l[k] ∧ l[k] < n) (hz : PutL ys l[k] zs) : Got l n (k + 1) zs := by
  refine ⟨hz.1, fun j => ?_⟩
  rw [hz.2.1, h.2, List.take_succ_eq_append_getElem hk, List.mem_append, List.mem_singleton]
  constructor
  · rintro (⟨h1, h2⟩ | rfl)
    · exact ⟨.inl h1, h2⟩
    · exact ⟨.inr rfl, hp⟩
  · rintro ⟨h1 | h1, h2⟩
    · exact .inl ⟨h1, h2⟩
    · exact .inr h1
theorem Got.no {l : List Int} {n k : Nat} {ys : List Int} (h : Got l n k ys) (hk : k < l.length) (hp : ¬ (0 ≤ l[k] ∧ l[k] < n)) : Got l n (k + 1) ys := by
  refine ⟨h.1, fun j => ?_⟩
  rw [h.2, List.take_succ_eq_append_getElem hk, List.mem_append, List.mem_singleton]
  constructor
  · rintro ⟨h1, h2⟩
    exact ⟨.inl h1, h2⟩
  · rintro ⟨h1 | rfl, h2⟩
    · exact ⟨h1, h2⟩
    · exact absurd h2 hp
theorem Got.inN {l : List Int} {n k : Nat} {ys : List Int} (h : Got l n k ys) : inN n ys := fun j hj => ((h.2 j).1 hj).2
theorem Got.mid {N : List Nd} {l : List Int} {p z : Int} {ys : List Int} (h : Got l N.length l.length ys) : Mid N l p z ys := by
  refine ⟨h.1, h.inN, fun j hj => (h.2 _).2 ⟨by rw [List.take_length]; exact hj.1, by omega, by have := hj.2; omega⟩, fun j hj => .start ?_⟩
  obtain ⟨h1, h2, h3⟩ := (h.2 j).1 hj
  rw [List.take_length] at h1
  exact ⟨by rw [Int.toNat_of_nonneg h2]; exact h1, by omega⟩
def lnOf : Value → Nat
  | .slice _ n _ => n
  | _ => 0
def boOf : Value → Nat
  | .bool true => 1
  | _ => 0

set_option maxHeartbeats 600000 in
theorem specSpread_any (N : List Nd) (B : Nat → Prop) (v u : Value) (l : List Int) (p z : Int) (w : World) (h : Nl w B N v) (hl : Iz w u l) :
    Calls Try.prog 16 #[.agg #[v], u, .int .i64 p, .int .i64 z] w fun e w' => ∃ x L, e = .returned x ∧ Iz w' x L ∧ SprL N l p z L ∧ Below w.heap.size w w' := by
  have HK := Hid.mk (fun w' (hb : Below w.heap.size w w') => specNfaOk_any N B v w' (h.grow hb))
  have HS := Hid.mk (fun hok w' xs u (hb : Below w.heap.size w w') hx hr hi => l5Spread_any N hok B v u xs p z w' (h.grow hb) hx hr hi)
  have HI := Hid.mk (fun w' (hb : Below w.heap.size w w') => hl.grow hb)
  obtain ⟨ao, cap, rfl, hn1, hm1, -⟩ := h
  obtain ⟨lo, lc, rfl, hl2, hm2, -, hc2⟩ := hl
  unfold maxLen at hm1 hm2
  have HC2 := Hid.mk hc2
  clear hc2
  have A0 : Hid (Below w.heap.size w (w.alloc (.cells #[.slice ao N.length cap] 30))) := (Below.refl _ _).alloc (Nat.le_refl _) _
  have A1 : Hid (Below (w.heap.size + 1) (w.alloc (.cells #[.slice ao N.length cap] 30)) ((w.alloc (.cells #[.slice ao N.length cap] 30)).alloc (.cells #[] 3))) := (Below.refl _ _).alloc (by simp) _
  have O0 : Hid (OwnZ ((w.alloc (.cells #[.slice ao N.length cap] 30)).alloc (.cells #[] 3)) (w.heap.size + 1) (.slice (some ⟨w.heap.size + 1, 0, none⟩) 0 0) []) := by
    have h0 : OwnZ ((w.alloc (.cells #[.slice ao N.length cap] 30)).alloc (.cells #[] 3)) (w.heap.size + 1) (.slice (some ⟨(w.alloc (.cells #[.slice ao N.length cap] 30)).heap.size, 0, none⟩) 0 0) [] := World.ownsRow_lit (w.alloc (.cells #[.slice ao N.length cap] 30)) #[] 0 (by simp) (by decide) rfl
    show OwnZ _ _ _ _
    simpa using h0
  go_enter Try.func16, Try.ntmps16
  go_wp2_with fail
  refine (HK.out _ (A0.out.trans (A1.out.mono (by omega)))).mono ?_
  rintro e w1 ⟨rfl, hb1⟩
  have C1 : Hid (Below (w.heap.size + 1) (w.alloc (.cells #[.slice ao N.length cap] 30)) w1) := A1.out.trans (hb1.mono (by simp))
  have I1 : Hid (Iz w1 (.slice (some ⟨w.heap.size + 1, 0, none⟩) 0 0) []) := (O0.out.grow hb1).iz
  have BW1 : Hid (Below w.heap.size w w1) := A0.out.trans (C1.out.mono (by omega))
  clear hb1 A1 O0
  cases hok : okNfa N with
  | false =>
    have HL : Hid (SprL N l p z []) := .inl ⟨hok, rfl⟩
    clear hok HS HK
    go_wp2
    go_ret
    exact ⟨_, [], rfl, I1.out, HL.out, BW1.out⟩
  | true =>
    have HOK := Hid.mk hok
    have hn3 := okNfa_size hok
    clear hok HK
    go_wp2
    go_loopw [9, 10] (fun q i wr => ∃ (k : Nat) (ys : List Int), k ≤ l.length ∧ i = .int .i64 k ∧ Hid (Iz wr q ys) ∧ Hid (Got l N.length k ys) ∧ Hid (Below (w.heap.size + 1) (w.alloc (.cells #[.slice ao N.length cap] 30)) wr)) (fun _ i _ => l.length - (intOf i).toNat)
    case atStart => exact ⟨0, [], Nat.zero_le _, rfl, I1, Got.zero _ _, C1⟩
    case round =>
      obtain ⟨k, ys, hk, rfl, HY, HG, HB⟩ := hrel
      clear I1 C1 BW1
      have BW := Hid.mk (A0.out.trans (HB.out.mono (by omega)))
      have hsz : w.heap.size + 1 ≤ wr.heap.size := by have := HB.out.size; simpa using this
      have d0 : wr.cell? ⟨w.heap.size, 0, none⟩ = some (.slice ao N.length cap) := by rw [HB.out.cell (p := ⟨w.heap.size, 0, none⟩) (by simp)]; simp
      by_cases hkl : k < l.length
      · obtain ⟨b, off, rfl, hcell⟩ := HC2.out (by intro h0; rw [h0] at hkl; simp at hkl)
        have hbl := World.block_lt_of_cell? w _ (hcell k hkl)
        obtain ⟨c, hcc⟩ : ∃ c, l[k] = c := ⟨_, rfl⟩
        have d1 : wr.cell? ⟨b, off + k, none⟩ = some (.int .i64 c) := by
          rw [BW.out.cell (p := ⟨b, off + k, none⟩) hbl, hcell k hkl, ← hcc]
          simp [List.getD, hkl]
        have HL := Hid.mk hcc
        have hkb : (k : Int) < (l.length : Int) := by omega
        have a0 := cell_regrown d0
        have a1 := cell_regrown d1
        have hwm : IntKind.i64.wrap ((N.length : Int) - 1) = (N.length : Int) - 1 := by rw [IntKind.wrap_i64]; omega
        have cA0 : Hid (∀ W, Calls Try.prog 58 #[.int .i64 c, .int .i64 0, .int .i64 ((N.length : Int) - 1)] W fun e w' => e = .returned (.bool (plB c N.length)) ∧ Below W.heap.size W w') := fun W => (nIn_any c N.length W).mono fun e w' h => ⟨h.1, by rw [h.2]; exact Below.refl _ _⟩
        obtain ⟨pb, hpb⟩ : ∃ pb, plB c N.length = pb := ⟨_, rfl⟩
        rw [hpb] at cA0
        obtain ⟨m1, hm1'⟩ : ∃ m1, (N.length : Int) - 1 = m1 := ⟨_, rfl⟩
        rw [hm1'] at cA0 hwm
        have cA := Hid.mk (fun d os => Calls.regrown_of (w := wr) (d := d) (os := os) (cA0.out _))
        clear hcell hcc
        go_wp2_with fail
        refine wp_region_quiet_below (by kernel_rfl) (by kernel_rfl) ?_
        quiet_step (fail)
        quiet_step (fail)
        quiet_step (fail)
        quiet_step (fail)
        quiet_step (fail)
        quiet_step (fail)
        quiet_step (fail)
        quiet_step (fail)
        quiet_step (exact cA.out _ _)
        refine wpQuiet_nil ?_
        intro w2 hw'
        obtain ⟨⟨dq, osq⟩, hw''⟩ := hw'
        have hb2 : Below wr.heap.size wr w2 := by rw [hw'']; exact below_regrown _ _ _
        have HB2 := Hid.mk (HB.out.trans (hb2.mono hsz))
        have HY2 := Hid.mk (HY.out.grow hb2)
        have d2 : w2.cell? ⟨b, off + k, none⟩ = some (.int .i64 c) := by rw [hb2.cell (p := ⟨b, off + k, none⟩) (World.block_lt_of_cell? wr _ d1)]; exact d1
        have hyl := HG.out.1.len HG.out.inN
        have s2 := hb2.size
        clear hw'' a0 a1 cA cA0 hb2 d0 d1 BW HB HY hwm
        rcases plCase c N.length with ⟨hp, hp'⟩ | ⟨hp, hp'⟩
        · rw [hp] at hpb
          subst hpb
          clear hm1'
          go_wp2_with fail
          refine (l4Put_any ys c _ _ HY2.out HG.out.1 (by omega)).mono ?_
          rintro e w3 ⟨x3, y3, rfl, ho3, hp3, hb3⟩
          have HG3 : Hid (Got l N.length (k + 1) y3) := HG.out.yes hkl (by rw [HL.out]; exact hp') (by rw [HL.out]; exact hp3)
          have HY3 := Hid.mk ho3.iz
          have HB3 := Hid.mk (HB2.out.trans (hb3.mono (by omega)))
          clear ho3 hp3 hb3 HY2 HB2 HG HL hp d2
          go_wp2
          go_roundw
          case rel => exact ⟨k + 1, y3, by omega, by go_num, HY3, HG3, HB3⟩
          case measure => simp [intOf]; omega
        · rw [hp] at hpb
          subst hpb
          clear hm1'
          have HG3 : Hid (Got l N.length (k + 1) ys) := HG.out.no hkl (by rw [HL.out]; exact hp')
          clear HG HL hp d2
          go_wp2
          go_roundw
          case rel => exact ⟨k + 1, ys, by omega, by go_num, HY2, HG3, HB2⟩
          case measure => simp [intOf]; omega
      · have e : k = l.length := by omega
        subst e
        have HM0 : Hid (Mid N l p z ys) := HG.out.mid
        have hq := HY.out
        clear HG BW hsz d0
        obtain ⟨yo, yc, rfl, -⟩ := id hq
        clear hq HC2 HI
        go_wp2
        go_loopw [9, 11] (fun q a wq => ∃ (ys : List Int) (ag : Bool), a = .bool ag ∧ (∃ yo yc, q = .slice yo ys.length yc) ∧ Hid (Iz wq q ys) ∧ Hid (Mid N l p z ys) ∧ Hid (ag = false → Clo N p z ys) ∧ Hid (Below (w.heap.size + 1) (w.alloc (.cells #[.slice ao N.length cap] 30)) wq)) (fun q a _ => 2 * (N.length - lnOf q) + boOf a)
        case atStart => exact ⟨ys, true, rfl, ⟨_, _, rfl⟩, HY, HM0, (fun h => by cases h), HB⟩
        case round =>
          obtain ⟨xs, ag, rfl, ⟨xo, xc, rfl⟩, HX, HM, HCl, HB2⟩ := hrel
          have BW := Hid.mk (A0.out.trans (HB2.out.mono (by omega)))
          have hsz : w.heap.size + 1 ≤ wr.heap.size := by have := HB2.out.size; simpa using this
          have d0 : wr.cell? ⟨w.heap.size, 0, none⟩ = some (.slice ao N.length cap) := by rw [HB2.out.cell (p := ⟨w.heap.size, 0, none⟩) (by simp)]; simp
          cases ag with
          | false =>
            have HD : Hid (SprL N l p z xs) := HM.out.done HOK.out (HCl.out rfl)
            clear HM HCl HS HY HM0
            go_wp2
            go_ret
            exact ⟨_, xs, rfl, HX.out, HD.out, BW.out⟩
          | true =>
            go_wp2_with fail
            refine (HS.out HOK.out _ xs _ BW.out HX.out HM.out.1 HM.out.2.1).mono ?_
            rintro e w2 ⟨x2, y2, rfl, hi2, hp2, hb2⟩
            obtain ⟨HM2, HC⟩ := HM.out.next HOK.out hp2
            have hle := hp2.2.2.1
            have hln := HM2.1.len HM2.2.1
            have HM2' := Hid.mk HM2
            have HC' := Hid.mk HC
            have HX2 := Hid.mk hi2
            have HB3 := Hid.mk (HB2.out.trans (hb2.mono hsz))
            obtain ⟨zo, zc, rfl, -⟩ := hi2
            clear HM2 HC hp2 hb2 HM HCl HX HB2 BW d0 HY HM0
            by_cases hlen : xs.length < y2.length
            · have hlen' : (xs.length : Int) < (y2.length : Int) := by omega
              go_wp2
              go_roundw
              case rel => exact ⟨y2, true, rfl, ⟨_, _, rfl⟩, HX2, HM2', (fun h => by cases h), HB3⟩
              case measure => simp [lnOf, boOf]; omega
            · have hlen' : ¬ (xs.length : Int) < (y2.length : Int) := by omega
              have HC2 : Hid (True → Clo N p z y2) := fun _ => HC'.out (by omega)
              go_wp2
              go_roundw
              case rel => exact ⟨y2, false, rfl, ⟨_, _, rfl⟩, HX2, HM2', (fun _ => HC2.out trivial), HB3⟩
              case measure => simp [lnOf, boOf]; omega
end Go.Proofs.Yteomhjoodnjfbaa
