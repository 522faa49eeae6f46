/- What is read of bytes as a number has these bytes; a text comes back of its bytes: plain facts. -/
import Derived.Test.YtincoibidgkiaaaDoorBack
import Derived.Test.YtincoibidgkiaaaDoorReadT
import Derived.Test.YtincoibidgkiaaaDoorAppStr
namespace Go.Proofs.YtincoibidgkiaaaDoor
open Go.RowKit

/-- Bytes of groups: all but the last from 128 to 255. -/
theorem grp_ind_u (g : List Int) (hg : Grp g) (hb : byteList g) (hz : 1 < g.length → g.getD (g.length - 1) 0 ≠ 0) (f : Nat) (hf : g.length ≤ f) : Ma.uG f (jn g g.length) = g ∧ (g.getD (g.length - 1) 0 ≠ 0 → 1 ≤ jn g g.length) := by
  induction g generalizing f with
  | nil => have := hg.pos; simp at this
  | cons c r ih =>
    cases f with
    | zero => simp at hf
    | succ f =>
      by_cases hr : r = []
      · subst hr
        have h1 := hg.last
        have h2 := hg.low
        simp at h1 h2
        simp [jn, Ma.uG]
        rw [if_neg (by omega)]
        refine ⟨by congr 1; omega, by omega⟩
      · obtain ⟨n, hn⟩ : ∃ n, r.length = n + 1 := ⟨r.length - 1, by have := List.length_pos_iff.2 hr; omega⟩
        have h0 := hg.more 0 (by simp; omega)
        simp at h0
        have hc := (hb c (by simp)).2
        have hg' : Grp r := by
          refine ⟨by omega, fun i hi => by simpa using hg.more (i + 1) (by simpa using hi), ?_, ?_⟩
          · have := hg.last
            simp only [List.length_cons, hn, Nat.add_sub_cancel, List.getD_cons_succ] at this ⊢
            exact this
          · have := hg.low
            simp only [List.length_cons, hn, Nat.add_sub_cancel, List.getD_cons_succ] at this ⊢
            exact this
        have hz' : r.getD (r.length - 1) 0 ≠ 0 := by
          have := hz (by simp; omega)
          simp only [List.length_cons, hn, Nat.add_sub_cancel, List.getD_cons_succ] at this ⊢
          exact this
        obtain ⟨a, b⟩ := ih hg' (fun z hz => hb z (by simp [hz])) (fun _ => hz') f (by simp at hf; omega)
        have hj := b hz'
        rw [List.length_cons, jn_cons, Ma.uG, if_pos (by omega)]
        refine ⟨?_, fun _ => by omega⟩
        rw [show (c % 128 + 128 * jn r r.length) / 128 = jn r r.length by omega, a]
        congr 1
        omega

/-- Two lists of groups of one length that tell one number are the same. -/
theorem grp_unique (g h : List Int) (hg : Grp g) (hh : Grp h) (bg : byteList g) (bh : byteList h) (hl : g.length = h.length) (hs : sgn g (g.length - 1) = sgn h (h.length - 1)) : g = h := by
  induction g generalizing h with
  | nil => have := hg.pos; simp at this
  | cons c r ih =>
    cases h with
    | nil => simp at hl
    | cons d s =>
      by_cases hr : r = []
      · subst hr
        obtain rfl : s = [] := List.eq_nil_of_length_eq_zero (by simp only [List.length_cons, List.length_nil] at hl; omega)
        have h1 := hg.last
        have h2 := hg.low
        have h3 := hh.last
        have h4 := hh.low
        simp at h1 h2 h3 h4
        simp [sgn, jn] at hs
        congr 1
        split at hs <;> split at hs <;> omega
      · obtain ⟨n, hn⟩ : ∃ n, r.length = n + 1 := ⟨r.length - 1, by have := List.length_pos_iff.2 hr; omega⟩
        have hm : s.length = n + 1 := by simp at hl; omega
        have down : ∀ (x : Int) (t : List Int), t.length = n + 1 → Grp (x :: t) → Grp t := fun x t ht hx => by
          refine ⟨by omega, fun i hi => by simpa using hx.more (i + 1) (by simpa using hi), ?_, ?_⟩
          · have := hx.last
            simp only [List.length_cons, ht, Nat.add_sub_cancel, List.getD_cons_succ] at this ⊢
            exact this
          · have := hx.low
            simp only [List.length_cons, ht, Nat.add_sub_cancel, List.getD_cons_succ] at this ⊢
            exact this
        have c0 := hg.more 0 (by simp; omega)
        have d0 := hh.more 0 (by simp; omega)
        simp at c0 d0
        have c1 := (bg c (by simp)).2
        have d1 := (bh d (by simp)).2
        simp only [List.length_cons, hn, hm, Nat.add_sub_cancel] at hs
        rw [sgn_cons, sgn_cons] at hs
        have e1 : c = d := by omega
        have e2 : r = s := ih s (down c r hn hg) (down d s hm hh) (fun z hz => bg z (by simp [hz])) (fun z hz => bh z (by simp [hz])) (by omega) (by rw [hn, hm]; simp only [Nat.add_sub_cancel]; omega)
        rw [e1, e2]

/-- The head of a list that is a number whole. -/
theorem head_grp (l : List Int) (hb : byteList l) (k : Nat) (hk : k < l.length) (h1 : ∀ i, i < k → 128 ≤ l.getD i 0) (h2 : l.getD k 0 < 128) : Grp (l.take (k + 1)) ∧ (l.take (k + 1)).length = k + 1 := by
  have hl : (l.take (k + 1)).length = k + 1 := by simp; omega
  have hget : ∀ i, i < k + 1 → (l.take (k + 1)).getD i 0 = l.getD i 0 := fun i hi => by simp [List.getD, hi]
  refine ⟨⟨by omega, fun i hi => ?_, ?_, ?_⟩, hl⟩
  · rw [hl] at hi; rw [hget i (by omega)]; exact h1 i (by omega)
  · rw [hl]; simp only [Nat.add_sub_cancel]; rw [hget k (by omega)]; exact h2
  · rw [hl]; simp only [Nat.add_sub_cancel]; rw [hget k (by omega)]; exact (hb.getD k).1

theorem gU_again {zs : List Int} {a x nx : Int} (hb : byteList zs) (h : gU zs a = (x, nx, true)) :
    ∃ p m : Nat, a = p ∧ nx = ((p + m : Nat) : Int) ∧ p + m ≤ zs.length ∧ 0 < m ∧ 0 ≤ x ∧ x ≤ 2147483647 ∧ Ma.UG x = (zs.drop p).take m := by
  unfold gU at h
  split at h
  · rename_i ha
    obtain ⟨p, rfl⟩ := Int.eq_ofNat_of_zero_le ha.1
    rw [Int.toNat_natCast] at h
    have hbl := hb.drop p
    have hll : (zs.drop p).length = zs.length - p := List.length_drop
    generalize hdl : zs.drop p = l at hbl hll h
    rcases groups_cases 5 l with hno | ⟨k, hk, hkl, hall, hlast⟩
    · rw [gUat_none (cg_none 5 l hno)] at h; simp at h
    · have hcg := cg_full 5 l k hk hkl hall hlast
      unfold gUat at h
      rw [hcg, if_neg (by omega)] at h
      split at h
      · simp at h
      · rename_i hno
        simp only [Prod.mk.injEq, and_true] at h
        obtain ⟨hG, hGl⟩ := head_grp l hbl k hkl hall hlast
        have hget : (l.take (k + 1)).getD k 0 = l.getD k 0 := by simp [List.getD]
        have hj := jn_take l (k + 1) (k + 1) (Nat.le_refl _)
        have hx0 := (jn_bd l (k + 1)).1
        refine ⟨p, k + 1, rfl, by omega, by omega, by omega, by omega, by omega, ?_⟩
        have := (grp_ind_u (l.take (k + 1)) hG (hbl.take _) (fun h1 => by
          rw [hGl] at h1 ⊢
          simp only [Nat.add_sub_cancel]
          rw [hget]
          intro h0
          exact hno (Or.inl ⟨h1, by simpa using h0⟩)) 5 (by omega)).1
        rw [hGl, hj, h.1] at this
        rw [hdl]
        exact this
  · simp at h

theorem gS_again {zs : List Int} {a y ny : Int} (hb : byteList zs) (h : gS zs a = (y, ny, true)) :
    ∃ p m : Nat, a = p ∧ ny = ((p + m : Nat) : Int) ∧ p + m ≤ zs.length ∧ 0 < m ∧ Ma.wr y = y ∧ Ma.SG y = (zs.drop p).take m := by
  unfold gS at h
  split at h
  · rename_i ha
    obtain ⟨p, rfl⟩ := Int.eq_ofNat_of_zero_le ha.1
    rw [Int.toNat_natCast] at h
    have hbl := hb.drop p
    have hll : (zs.drop p).length = zs.length - p := List.length_drop
    generalize hdl : zs.drop p = l at hbl hll h
    rcases groups_cases 5 l with hno | ⟨k, hk, hkl, hall, hlast⟩
    · rw [gSat_none (cg_none 5 l hno)] at h; simp at h
    · have hcg := cg_full 5 l k hk hkl hall hlast
      unfold gSat at h
      rw [hcg, if_neg (by omega)] at h
      simp only [Nat.add_sub_cancel] at h
      split at h
      · simp at h
      · rename_i hno
        simp only [Prod.mk.injEq, and_true] at h
        obtain ⟨hG, hGl⟩ := head_grp l hbl k hkl hall hlast
        have hw : Ma.wr (sgn l k) = sgn l k := Classical.byContradiction fun hc => hno (Or.inl hc)
        have hlen : (Ma.SG (sgn l k)).length = k + 1 := Classical.byContradiction fun hc => hno (Or.inr hc)
        have hlo := Ma.wr_lo (sgn l k)
        have hhi := Ma.wr_hi (sgn l k)
        obtain ⟨hS, hSv⟩ := SG_grp (sgn l k) (by omega) (by omega)
        have hst : sgn (l.take (k + 1)) k = sgn l k := by
          unfold sgn
          rw [jn_take l (k + 1) (k + 1) (Nat.le_refl _)]
          have hget : (l.take (k + 1)).getD k 0 = l.getD k 0 := by simp [List.getD]
          rw [hget]
        refine ⟨p, k + 1, rfl, by omega, by omega, by omega, by rw [← h.1]; exact hw, ?_⟩
        rw [← h.1, hdl]
        refine grp_unique _ _ hS hG (SG_byte 5 _) (hbl.take _) (by omega) ?_
        rw [hSv, hGl]
        exact hst.symm
  · simp at h

theorem strOf_txt (s : ByteArray) : strOf (txt s) = s := by
  unfold strOf txt
  apply ByteArray.ext
  have e : ((fun z : Int => UInt8.ofNat z.toNat) ∘ fun b : UInt8 => ((b.toNat : Nat) : Int)) = id := by
    funext b
    simp
  rw [List.map_map, e, List.map_id]

/-- A number at the head of more bytes. -/
theorem gU_put_more (ys ts : List Int) (m : Int) (h0 : 0 ≤ m) (h1 : m ≤ 2147483647) : gU (ys ++ (Ma.UG m ++ ts)) ys.length = (m, (ys.length : Int) + (Ma.UG m).length, true) := by
  obtain ⟨a, b, c⟩ := UG_grp m h0 h1
  have hp := a.pos
  have h5 := Ma.UG_length m
  have hget : ∀ i, i < (Ma.UG m).length → (Ma.UG m ++ ts).getD i 0 = (Ma.UG m).getD i 0 := fun i hi => by simp [List.getD, List.getElem?_append_left hi]
  have hcg : cg 5 (Ma.UG m ++ ts) = ((Ma.UG m).length - 1) + 1 :=
    cg_full 5 _ ((Ma.UG m).length - 1) (by omega) (by rw [List.length_append]; omega) (fun i hi => by rw [hget i (by omega)]; exact a.more i (by omega)) (by rw [hget _ (by omega)]; exact a.last)
  have hj : jn (Ma.UG m ++ ts) (Ma.UG m).length = m := by
    rw [← jn_take (Ma.UG m ++ ts) (Ma.UG m).length _ (Nat.le_refl _), List.take_left]
    exact b
  rw [gU_in (by rw [List.length_append, List.length_append]; omega), List.drop_left]
  rw [gUat_yes hcg rfl ?_ ?_]
  · rw [show (Ma.UG m).length - 1 + 1 = (Ma.UG m).length by omega, hj]
    simp only [Prod.mk.injEq, and_true, true_and]; omega
  · by_cases h : 1 < (Ma.UG m).length
    · exact Or.inr (by rw [hget _ (by omega)]; exact c h)
    · exact Or.inl (by omega)
  · rw [show (Ma.UG m).length - 1 + 1 = (Ma.UG m).length by omega, hj]; exact h1

theorem gT_put (ys : List Int) (s : ByteArray) (hs : s.size ≤ 2147483647) :
    gT (ys ++ (Ma.UG (s.size : Int) ++ txt s)) ys.length = (s, ((ys ++ (Ma.UG (s.size : Int) ++ txt s)).length : Int), true) := by
  have hu := gU_put_more ys (txt s) (s.size : Int) (by omega) (by omega)
  have hl := txt_length s
  unfold gT
  rw [hu]
  have hlen : (ys ++ (Ma.UG (s.size : Int) ++ txt s)).length = ys.length + ((Ma.UG (s.size : Int)).length + s.size) := by rw [List.length_append, List.length_append, hl]
  rw [if_neg ?_, hlen]
  · have e : ((ys.length : Int) + ((Ma.UG (s.size : Int)).length : Int)).toNat = ys.length + (Ma.UG (s.size : Int)).length := by omega
    simp only [e, Int.toNat_natCast]
    have d : ((ys ++ (Ma.UG (s.size : Int) ++ txt s)).drop (ys.length + (Ma.UG (s.size : Int)).length)).take s.size = txt s := by
      rw [← List.drop_drop, List.drop_left, List.drop_left, ← hl, List.take_length]
    rw [d, strOf_txt]
    simp only [Prod.mk.injEq, and_true, true_and]
    omega
  · intro h1
    rcases h1 with h1 | h1
    · simp at h1
    · rw [hlen] at h1
      simp only at h1
      omega

theorem clamp_id (x : Int) (h0 : 0 ≤ x) (h1 : x ≤ 2147483647) : Ma.clamp x = x := by
  unfold Ma.clamp
  rw [if_neg (by omega), if_neg (by omega)]

end Go.Proofs.YtincoibidgkiaaaDoor
