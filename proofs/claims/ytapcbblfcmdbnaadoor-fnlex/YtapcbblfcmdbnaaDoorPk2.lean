/- Tokens that are joined are read again: what lexT answers of the joined text of tokens that fit one behind the other. The cursor of a draw: a struct of the drawn bytes, a place in them and a number that is mixed on. Whatever it draws is a byte; nothing else turns. What the draws of chapter 1 hand over: some number; some bytes, in memory of their own. Which ones, no law asks. The cursor of a draw: one of some texts, and whether something comes once in so often. What the draws of chapter 2 hand over: some value: its number is one that an int holds, its text is short. Which one, no law asks. Draws of tokens. -/
import Derived.Test.YtapcbblfcmdbnaaDoorLexOk
import Derived.Test.YtapcbblfcmdbnaaDoorPk1
import Derived.Test.YtapcbblfcmdbnaaDoorLeaf
import Derived.WalkSmall
import Derived.Test.YtapcbblfcmdbnaaDoorApp
import Derived.Test.YtapcbblfcmdbnaaDoorVal
import Derived.Test.YtapcbblfcmdbnaaDoorAppStr
import Derived.Test.YtapcbblfcmdbnaaDoorReadT
namespace Go.Proofs.YtapcbblfcmdbnaaDoor
open Go.RowKit
set_option maxRecDepth 8000

theorem txtApp (a b : ByteArray) : txt (a ++ b) = txt a ++ txt b := by simp [txt, ByteArray.data_append]
theorem txtPart (s : ByteArray) (a b : Nat) : txt (s.extract a b) = ((txt s).drop a).take (b - a) := by
  unfold txt
  rw [ByteArray.data_extract, Array.toList_extract, List.extract_eq_take_drop, List.map_take, List.map_drop]
theorem txtInj {a b : ByteArray} (h : txt a = txt b) : a = b := by
  unfold txt at h
  have hi : ∀ x y : UInt8, ((x.toNat : Nat) : Int) = ((y.toNat : Nat) : Int) → x = y := fun x y e => UInt8.toNat_inj.1 (by omega)
  have hl : ∀ l m : List UInt8, l.map (fun b => ((b.toNat : Nat) : Int)) = m.map (fun b => ((b.toNat : Nat) : Int)) → l = m := by
    intro l
    induction l with
    | nil => intro m h; cases m with
      | nil => rfl
      | cons _ _ => simp at h
    | cons x r ih => intro m h; cases m with
      | nil => simp at h
      | cons y q =>
        simp only [List.map_cons, List.cons.injEq] at h
        rw [hi x y h.1, ih q h.2]
  apply ByteArray.ext
  apply Array.toList_inj.1
  exact hl _ _ h
theorem txt_lit (l : List UInt8) : txt ⟨l.toArray⟩ = l.map fun b => ((b.toNat : Nat) : Int) := rfl
theorem txt_list {s : ByteArray} {l : List UInt8} (h : s.toList = l) : txt s = l.map fun b => ((b.toNat : Nat) : Int) := by
  rw [ByteArray.toList_eq] at h
  unfold txt
  rw [h]

-- what stands at a place
theorem at_hd {s : ByteArray} {p : Nat} {c : Int} {l : List Int} (h : (txt s).drop p = c :: l) : p < s.size ∧ bt s p = c := by
  have hp : p < (txt s).length := by
    rcases Nat.lt_or_ge p (txt s).length with h' | h'
    · exact h'
    · rw [List.drop_eq_nil_of_le h'] at h; cases h
  rw [txt_length] at hp
  rw [bt_drop hp] at h
  exact ⟨hp, (List.cons.inj h).1⟩
theorem at_tl {s : ByteArray} {p : Nat} {a r : List Int} (h : (txt s).drop p = a ++ r) : (txt s).drop (p + a.length) = r := by
  rw [← List.drop_drop, h, List.drop_left]
theorem at_len {s : ByteArray} {p : Nat} {a r : List Int} (hp : p ≤ s.size) (h : (txt s).drop p = a ++ r) : p + a.length + r.length = s.size := by
  have := congrArg List.length h
  rw [List.length_drop, txt_length, List.length_append] at this
  omega
theorem at_ext {s x : ByteArray} {p : Nat} {r : List Int} (h : (txt s).drop p = txt x ++ r) : s.extract p (p + x.size) = x := by
  apply txtInj
  rw [txtPart, h, Nat.add_sub_cancel_left, ← txt_length x, List.take_left]
theorem tk_all {q : Int → Bool} : ∀ {a r : List Int}, (∀ c ∈ a, q c = true) → (r = [] ∨ ∃ c r', r = c :: r' ∧ q c = false) → (a ++ r).takeWhile q = a
  | [], r, _, h => by
    rcases h with rfl | ⟨c, r', rfl, hc⟩
    · rfl
    · rw [List.nil_append, List.takeWhile_cons, if_neg (by rw [hc]; simp)]
  | c :: a, r, ha, h => by
    rw [List.cons_append, List.takeWhile_cons, if_pos (ha c (List.mem_cons_self ..)), tk_all (fun x hx => ha x (List.mem_cons_of_mem _ hx)) h]
theorem at_tw {q : Int → Bool} {s : ByteArray} {p : Nat} {a r : List Int} (h : (txt s).drop p = a ++ r) (ha : ∀ c ∈ a, q c = true) (hr : r = [] ∨ ∃ c r', r = c :: r' ∧ q c = false) : tw q s p = p + a.length := by
  unfold tw
  rw [h, tk_all ha hr]
theorem allB_mem {p : Int → Bool} {s : ByteArray} (h : allB p s = true) : ∀ c ∈ txt s, p c = true := by
  unfold allB at h
  exact List.all_eq_true.1 h

-- a number's digits
theorem dec_dig : ∀ n u, u = n → (∀ c ∈ Lib.decDigits u, dgU c) ∧ Lib.decDigits u ≠ [] ∧ fv 0 (Lib.decDigits u) = u := by
  intro n
  induction n using Nat.strongRecOn with
  | _ n ih =>
    rintro u rfl
    have hU : ∀ d, d < 10 → (UInt8.ofNat (48 + d)).toNat = 48 + d := fun d hd => by
      rw [UInt8.toNat_ofNat']
      omega
    by_cases h : u < 10
    · rw [Lib.decDigits_one h]
      refine ⟨fun c hc => ?_, by simp, ?_⟩
      · rw [List.mem_singleton.1 hc]
        unfold dgU
        rw [hU u h]
        omega
      · simp only [fv, List.foldl_cons, List.foldl_nil]
        rw [hU u h]
        omega
    · rw [decDigits_step u (by omega)]
      obtain ⟨h1, h2, h3⟩ := ih (u / 10) (by omega) _ rfl
      have hm := hU (u % 10) (by omega)
      refine ⟨fun c hc => ?_, by simp, ?_⟩
      · rcases List.mem_append.1 hc with hc | hc
        · exact h1 c hc
        · rw [List.mem_singleton.1 hc]
          unfold dgU
          rw [hm]
          omega
      · rw [fv_snoc, h3, hm]
        omega
theorem num_back {n : Int} (h : tokB 1 n ⟨#[]⟩ = true) : (∀ c ∈ txt (numS n), dgB c = true) ∧ 1 ≤ (numS n).size ∧ niB (numS n) = n := by
  obtain ⟨h0, h1⟩ := tok_num h
  obtain ⟨u, rfl⟩ : ∃ u : Nat, n = u := ⟨n.toNat, by omega⟩
  have e : (numS (u : Int)).data.toList = Lib.decDigits u := by
    unfold numS Lib.itoa
    rw [if_neg (by omega), Int.toNat_natCast]
  obtain ⟨d1, d2, d3⟩ := dec_dig u u rfl
  have hz : 1 ≤ (numS (u : Int)).size := by
    have h1 : (numS (u : Int)).size = (numS (u : Int)).data.toList.length := by rw [Array.length_toList]; rfl
    rw [h1, e]
    exact List.length_pos_iff.2 d2
  have hd : ∀ c ∈ (numS (u : Int)).data.toList, dgU c := by rw [e]; exact d1
  refine ⟨?_, hz, ?_⟩
  · intro c hc
    unfold txt at hc
    obtain ⟨b, hb, rfl⟩ := List.mem_map.1 hc
    have := hd b hb
    unfold dgU at this
    unfold dgB
    exact bwB_yes (by omega) (by omega)
  · obtain ⟨a1, a2⟩ := pn_ni (numS (u : Int)) hz hd
    have hp : pnT (numS (u : Int)) = (u : Int) := by
      unfold pnT
      rw [e, d3, if_pos ⟨by omega, rfl⟩]
    rw [hp] at a2
    exact (a2 h).symm

-- marks
theorem mk_facts : ∀ m ∈ tkMarks, (∃ c r, m = c :: r ∧ (r = [] ∨ ∃ d, r = [d] ∧ d ≠ 32) ∧ (c.toNat < 48 ∨ 57 < c.toNat) ∧ (c.toNat < 97 ∨ 122 < c.toNat) ∧ c ≠ 39 ∧ c ≠ 32 ∧ c ≠ 9 ∧ c ≠ 10 ∧ c ≠ 13 ∧ c ≠ 35 ∧ (c = 47 → r = [])) := by
  have key : tkMarks.all (fun m => match m with
    | [c] => (decide (c.toNat < 48) || decide (57 < c.toNat)) && (decide (c.toNat < 97) || decide (122 < c.toNat)) && c != 39 && c != 32 && c != 9 && c != 10 && c != 13 && c != 35
    | [c, d] => d != 32 && (decide (c.toNat < 48) || decide (57 < c.toNat)) && (decide (c.toNat < 97) || decide (122 < c.toNat)) && c != 39 && c != 32 && c != 9 && c != 10 && c != 13 && c != 35 && c != 47
    | _ => false) = true := by decide +kernel
  intro m hm
  have := List.all_eq_true.1 key m hm
  match m, this with
  | [c], h =>
    simp only [Bool.and_eq_true, Bool.or_eq_true, decide_eq_true_eq, bne_iff_ne, ne_eq] at h
    exact ⟨c, [], rfl, .inl rfl, h.1.1.1.1.1.1.1, h.1.1.1.1.1.1.2, h.1.1.1.1.1.2, h.1.1.1.1.2, h.1.1.1.2, h.1.1.2, h.1.2, h.2, fun _ => rfl⟩
  | [c, d], h =>
    simp only [Bool.and_eq_true, Bool.or_eq_true, decide_eq_true_eq, bne_iff_ne, ne_eq] at h
    exact ⟨c, [d], rfl, .inr ⟨d, rfl, h.1.1.1.1.1.1.1.1.1⟩, h.1.1.1.1.1.1.1.1.2, h.1.1.1.1.1.1.1.2, h.1.1.1.1.1.1.2, h.1.1.1.1.1.2, h.1.1.1.1.2, h.1.1.1.2, h.1.1.2, h.1.2, fun e => absurd e h.2⟩
theorem mkB_mem {s : ByteArray} (h : mkB s = true) : s.toList ∈ tkMarks := by
  unfold mkB at h
  simpa using h
theorem no_blank (c : UInt8) : ∀ x : ByteArray, x.toList = [c, 32] → mkB x = false := by
  intro x hx
  cases hb : mkB x with
  | false => rfl
  | true =>
    obtain ⟨c', r, e, hr, -⟩ := mk_facts _ (mkB_mem hb)
    rw [hx] at e
    have e2 := (List.cons.inj e).2
    rcases hr with rfl | ⟨d, rfl, hd⟩
    · cases e2
    · exact absurd (List.cons.inj e2).1.symm hd

/-- A token's text begins with a byte that is no blank and begins no remark. -/
def Hd (x : ByteArray) : Prop := ∃ c l, txt x = c :: l ∧ blB c = false ∧ c ≠ 35
theorem bl_of {c : Int} (h : (48 ≤ c ∧ c ≤ 57) ∨ (97 ≤ c ∧ c ≤ 122) ∨ c = 39 ∨ c = 47) : blB c = false ∧ c ≠ 35 := by
  refine ⟨?_, by omega⟩
  unfold blB
  rw [beq_false_of_ne (show c ≠ 32 by omega), beq_false_of_ne (show c ≠ 9 by omega), beq_false_of_ne (show c ≠ 10 by omega), beq_false_of_ne (show c ≠ 13 by omega)]
  rfl
theorem rest_no {q : Int → Bool} {r : List Int} (hr : r = [] ∨ ∃ r', r = 32 :: r') (hq : q 32 = false) : r = [] ∨ ∃ c r', r = c :: r' ∧ q c = false := by
  rcases hr with rfl | ⟨r', rfl⟩
  · exact .inl rfl
  · exact .inr ⟨32, r', rfl, hq⟩
theorem emp_eq {s : ByteArray} (h : s.toList.isEmpty = true) : s = ⟨#[]⟩ := by
  apply ByteArray.ext
  rw [ByteArray.toList_eq] at h
  apply Array.toList_inj.1
  simpa using h

theorem one_num {s : ByteArray} {p : Nat} {n : Int} {r : List Int} (rex : Bool) (h : tokB 1 n ⟨#[]⟩ = true) (hx : (txt s).drop p = txt (numS n) ++ r) (hr : r = [] ∨ ∃ r', r = 32 :: r') :
    oneT s p rex = (⟨1, n, ⟨#[]⟩⟩, p + (numS n).size) ∧ Hd (numS n) := by
  obtain ⟨hd, hz, hn⟩ := num_back h
  have htw : tw (runB false) s p = p + (numS n).size := by
    rw [← txt_length (numS n)]
    exact at_tw hx (fun c hc => by unfold runB; rw [hd c hc]; rfl) (rest_no hr (by decide))
  have hex := at_ext hx
  obtain ⟨c, l, hcl⟩ : ∃ c l, txt (numS n) = c :: l := by
    cases hl : txt (numS n) with
    | nil => have := txt_length (numS n); rw [hl] at this; simp at this; omega
    | cons c l => exact ⟨c, l, rfl⟩
  have hc := hd c (by rw [hcl]; exact List.mem_cons_self ..)
  rw [hcl, List.cons_append] at hx
  have hb := (at_hd hx).2
  have hc' := hc
  simp [dgB, bwB] at hc'
  refine ⟨?_, c, l, hcl, bl_of (.inl hc')⟩
  unfold oneT
  rw [hb, if_pos hc, htw, hex, hn]
theorem one_name {s x : ByteArray} {p : Nat} {r : List Int} (rex : Bool) (h : nameB x = true) (hx : (txt s).drop p = txt x ++ r) (hr : r = [] ∨ ∃ r', r = 32 :: r') :
    oneT s p rex = (⟨2, 0, x⟩, p + x.size) ∧ Hd x := by
  unfold nameB at h
  rw [Bool.and_eq_true, Bool.and_eq_true] at h
  obtain ⟨⟨h1, h2⟩, h3⟩ := h
  have hall := allB_mem h3
  have htw : tw (runB true) s p = p + x.size := by
    rw [← txt_length x]
    exact at_tw hx (fun c hc => by rw [← nb_run]; exact hall c hc) (rest_no hr (by decide))
  have hex := at_ext hx
  obtain ⟨c, l, hcl⟩ : ∃ c l, txt x = c :: l := by
    cases hl : txt x with
    | nil => have := txt_length x; rw [hl] at this; simp [bwB] at h1 this; omega
    | cons c l => exact ⟨c, l, rfl⟩
  rw [hcl] at h2
  have h2' : smB c = true := h2
  have hdg : dgB c = false := by
    have h4 := h2'
    simp [smB, bwB] at h4
    unfold dgB
    exact bwB_hi (by omega)
  rw [hcl, List.cons_append] at hx
  have hb := (at_hd hx).2
  have h5 := h2'
  simp [smB, bwB] at h5
  refine ⟨?_, c, l, hcl, bl_of (.inr (.inl h5))⟩
  unfold oneT
  rw [hb, if_neg (by rw [hdg]; simp), if_pos h2', htw, hex]
theorem one_quote {s x : ByteArray} {p : Nat} {e k : Int} {r : List Int} (h : prB e x = true) (hp : p ≤ s.size) (hx : (txt s).drop p = e :: (txt x ++ e :: r)) : qtT s p k = (⟨k, 0, x⟩, p + x.size + 2) := by
  have hall := allB_mem (show allB (pnB e) x = true by unfold prB at h; rw [Bool.and_eq_true] at h; exact h.2)
  have hb := (at_hd hx).2
  have h1 : (txt s).drop (p + 1) = txt x ++ e :: r := at_tl (a := [e]) hx
  have htw : tw (neB e) s (p + 1) = p + 1 + x.size := by
    rw [← txt_length x]
    refine at_tw h1 (fun c hc => ?_) (.inr ⟨e, r, rfl, by simp [neB]⟩)
    have := hall c hc
    unfold pnB at this
    rw [Bool.and_eq_true] at this
    exact this.2
  have hl := at_len (r := txt x ++ e :: r) hp (a := [e]) hx
  rw [List.length_append, txt_length] at hl
  simp only [List.length_cons, List.length_nil] at hl
  unfold qtT
  rw [hb, htw, if_neg (by omega), at_ext h1]
  congr 1
  omega
set_option maxHeartbeats 1000000 in
theorem one_mark {s x : ByteArray} {p : Nat} {r : List Int} (rex : Bool) (h : mkB x = true) (hp : p ≤ s.size) (hx : (txt s).drop p = txt x ++ r) (hr : r = [] ∨ ∃ r', r = 32 :: r') (hsl : x.toList = [47] → rex = false) :
    oneT s p rex = (⟨5, 0, x⟩, p + x.size) ∧ Hd x := by
  obtain ⟨c, q, e, hq, h1, h2, h3, h4, h5, h6, h7, h8, h9⟩ := mk_facts _ (mkB_mem h)
  have ht := txt_list e
  rw [List.map_cons] at ht
  have hb := (at_hd (by rw [hx, ht, List.cons_append])).2
  have hnat : ∀ d : UInt8, c ≠ d → ((c.toNat : Nat) : Int) ≠ ((d.toNat : Nat) : Int) := fun d hd h => hd (UInt8.toNat_inj.1 (by omega))
  have hdg : dgB ((c.toNat : Nat) : Int) = false := by
    unfold dgB
    rcases h1 with h1 | h1
    · exact bwB_lo (by omega)
    · exact bwB_hi (by omega)
  have hsm : smB ((c.toNat : Nat) : Int) = false := by
    unfold smB
    rcases h2 with h2 | h2
    · exact bwB_lo (by omega)
    · exact bwB_hi (by omega)
  have h39 : ((c.toNat : Nat) : Int) ≠ 39 := hnat 39 h3
  have h47 : ¬ (((c.toNat : Nat) : Int) = 47 ∧ rex = true) := by
    rintro ⟨a, b⟩
    have hc : c = 47 := UInt8.toNat_inj.1 (by have : (47 : UInt8).toNat = 47 := rfl; omega)
    have := hsl (by rw [e, h9 hc, hc])
    rw [b] at this
    cases this
  have hhd : Hd x := by
    refine ⟨_, _, ht, ?_, hnat 35 h8⟩
    unfold blB
    have n1 : ((c.toNat : Nat) : Int) ≠ 32 := hnat 32 h4
    have n2 : ((c.toNat : Nat) : Int) ≠ 9 := hnat 9 h5
    have n3 : ((c.toNat : Nat) : Int) ≠ 10 := hnat 10 h6
    have n4 : ((c.toNat : Nat) : Int) ≠ 13 := hnat 13 h7
    rw [beq_false_of_ne n1, beq_false_of_ne n2, beq_false_of_ne n3, beq_false_of_ne n4]
    rfl
  refine ⟨?_, hhd⟩
  have hz : x.size = 1 + q.length := by
    have h1 := txt_length x
    rw [ht] at h1
    simp at h1
    omega
  have hl := at_len hp hx
  rw [txt_length] at hl
  unfold oneT
  rw [hb, if_neg (by rw [hdg]; simp), if_neg (by rw [hsm]; simp), if_neg h39, if_neg h47]
  rcases hq with rfl | ⟨d, rfl, hd⟩
  · have hno : ¬ (p + 1 < s.size ∧ mkB (s.extract p (p + 2)) = true) := by
      rintro ⟨a, b⟩
      rcases hr with rfl | ⟨r', rfl⟩
      · simp at hl hz; omega
      · have e2 : s.extract p (p + 2) = ⟨#[c, 32]⟩ := by
          have h32 : (((32 : UInt8).toNat : Nat) : Int) = 32 := by decide
          have e3 : txt ⟨#[c, 32]⟩ = [((c.toNat : Nat) : Int), 32] := by rw [← h32]; rfl
          have hx2 : (txt s).drop p = txt ⟨#[c, 32]⟩ ++ r' := by rw [hx, ht, e3, List.map_nil]; rfl
          have h := at_ext hx2
          have hz2 : (⟨#[c, 32]⟩ : ByteArray).size = 2 := rfl
          rw [hz2] at h
          exact h
        rw [no_blank c _ (by rw [e2, ByteArray.toList_eq])] at b
        cases b
    rw [if_neg hno]
    have := at_ext hx
    simp at hz
    rw [hz] at this
    rw [hz, this]
  · have hz2 : x.size = 2 := by simpa using hz
    have := at_ext hx
    rw [hz2] at this
    rw [if_pos ⟨by omega, by rw [this]; exact h⟩, this, hz2]

/-- Of a right token's text, with a blank or the end behind it, that token is read. -/
theorem one_back {s : ByteArray} {p : Nat} {t : Tk} {r : List Int} (rex : Bool) (h : tkOkB t = true) (hp : p ≤ s.size) (hx : (txt s).drop p = txt (tkTx t) ++ r) (hr : r = [] ∨ ∃ r', r = 32 :: r') (h4 : t.k = 4 → rex = true) (h5 : t.k = 5 → t.s.toList = [47] → rex = false) :
    oneT s p rex = (t, p + (tkTx t).size) ∧ Hd (tkTx t) := by
  obtain ⟨k, n, x⟩ := t
  have hk : tokB k n x = true := h
  unfold tkTx at hx ⊢
  simp only at hx h4 h5 ⊢
  by_cases h1 : k = 1
  · subst h1
    have hem : x = ⟨#[]⟩ := by
      unfold tokB at hk
      rw [if_pos rfl, Bool.and_eq_true] at hk
      exact emp_eq hk.2
    subst hem
    rw [tkT_1 hk] at hx ⊢
    exact one_num rex hk hx hr
  have hw : n = 0 ∧ wrB k x = true := by
    unfold tokB at hk
    rw [if_neg h1, Bool.and_eq_true] at hk
    exact ⟨by simpa using hk.1, hk.2⟩
  obtain ⟨rfl, hw⟩ := hw
  by_cases h2 : k = 2
  · subst h2
    rw [tkT_s hk (by decide) (by decide) (by decide)] at hx ⊢
    exact one_name rex hw hx hr
  by_cases h3 : k = 3
  · subst h3
    rw [tkT_3 hk] at hx ⊢
    have hx' : (txt s).drop p = 39 :: (txt x ++ 39 :: r) := by rw [hx, txtApp, txtApp]; simp [txt]
    have hq := one_quote (k := 3) (show prB 39 x = true from hw) hp hx'
    have hz : ((⟨#[39]⟩ ++ x) ++ ⟨#[39]⟩ : ByteArray).size = x.size + 2 := by simp [ByteArray.size_append]; have e : (ByteArray.mk #[39]).size = 1 := rfl; omega
    refine ⟨?_, 39, _, by rw [txtApp, txtApp]; rfl, bl_of (.inr (.inr (.inl rfl)))⟩
    unfold oneT
    rw [(at_hd hx').2, if_neg (by decide), if_neg (by decide), if_pos rfl, hq, hz]
    rfl
  by_cases hk4 : k = 4
  · subst hk4
    rw [tkT_4 hk] at hx ⊢
    have hx' : (txt s).drop p = 47 :: (txt x ++ 47 :: r) := by rw [hx, txtApp, txtApp]; simp [txt]
    have hw' : prB 47 x = true := by
      have h : (!x.toList.isEmpty && prB 47 x) = true := hw
      rw [Bool.and_eq_true] at h
      exact h.2
    have hq := one_quote (k := 4) hw' hp hx'
    have hz : ((⟨#[47]⟩ ++ x) ++ ⟨#[47]⟩ : ByteArray).size = x.size + 2 := by simp [ByteArray.size_append]; have e : (ByteArray.mk #[47]).size = 1 := rfl; omega
    refine ⟨?_, 47, _, by rw [txtApp, txtApp]; rfl, bl_of (.inr (.inr (.inr rfl)))⟩
    unfold oneT
    rw [(at_hd hx').2, if_neg (by decide), if_neg (by decide), if_neg (by decide), if_pos ⟨rfl, h4 rfl⟩, hq, hz]
    rfl
  by_cases hk5 : k = 5
  · subst hk5
    rw [tkT_s hk (by decide) (by decide) (by decide)] at hx ⊢
    exact one_mark rex hw hp hx hr (h5 rfl)
  · unfold wrB at hw
    rw [if_neg h2, if_neg h3, if_neg hk4, if_neg hk5] at hw
    cases hw

-- tokens one behind the other
/-- Each is right, and may stand where it stands: a regular expression just behind a sign ~, a / never there. -/
def Fit (M : List Tk) : Prop := ∀ i (h : i < M.length), tkOkB M[i] = true ∧ (M[i].k = 4 → tiL (M.take i) = true) ∧ (M[i].k = 5 → M[i].s.toList = [47] → tiL (M.take i) = false)
/-- The text of tokens, with a blank between. -/
def jl : List Tk → List Int
  | [] => []
  | [t] => txt (tkTx t)
  | t :: u :: r => txt (tkTx t) ++ 32 :: jl (u :: r)
theorem jl_snoc : ∀ (L : List Tk) (t : Tk), jl (L ++ [t]) = if L = [] then txt (tkTx t) else jl L ++ 32 :: txt (tkTx t)
  | [], t => rfl
  | [u], t => by simp [jl]
  | u :: v :: r, t => by
    have ih := jl_snoc (v :: r) t
    rw [if_neg (by simp)] at ih ⊢
    show txt (tkTx u) ++ 32 :: jl ((v :: r) ++ [t]) = _
    rw [ih]
    simp [jl]
theorem join_jl (L : List Tk) : ∀ k, k ≤ L.length → txt (jnT (tkTs L) k) = jl (L.take k)
  | 0, _ => rfl
  | k + 1, h => by
    have ih := join_jl L k (by omega)
    rw [jnT_step, tkTs_get L k h, List.take_succ_eq_append_getElem h, jl_snoc]
    by_cases h0 : k = 0
    · subst h0
      rw [if_pos rfl, if_pos (by simp), txtApp]
      rfl
    · have hne : L.take k ≠ [] := by
        intro e
        have := congrArg List.length e
        rw [List.length_take, List.length_nil] at this
        omega
      rw [if_neg h0, if_neg hne, txtApp, txtApp, ih]
      simp [txt]
theorem jl_hd {t : Tk} {r : List Tk} : ∃ q, jl (t :: r) = txt (tkTx t) ++ q ∧ (q = [] ∨ ∃ r', q = 32 :: r') ∧ ((r = [] ∧ q = []) ∨ (r ≠ [] ∧ q = 32 :: jl r)) := by
  cases r with
  | nil => exact ⟨[], by simp [jl], .inl rfl, .inl ⟨rfl, rfl⟩⟩
  | cons u r => exact ⟨32 :: jl (u :: r), rfl, .inr ⟨_, rfl⟩, .inr ⟨by simp, rfl⟩⟩
theorem hd_stop {s : ByteArray} {p : Nat} {x : ByteArray} {r : List Int} (h : Hd x) (hx : (txt s).drop p = txt x ++ r) : p < s.size ∧ pas s p = p := by
  obtain ⟨c, l, e, h1, h2⟩ := h
  rw [e, List.cons_append] at hx
  obtain ⟨hp, hb⟩ := at_hd hx
  exact ⟨hp, pas_stop hp (by rw [hb]; exact h1) (by rw [hb]; exact h2)⟩
theorem lexF_back (s : ByteArray) : ∀ (L A : List Tk) (f p : Nat), p ≤ s.size → (txt s).drop p = jl L → Fit (A ++ L) → A.length + L.length ≤ 2000 → L.length < f → lexF s f (pas s p) A = (A ++ L, -1)
  | [], A, f, p, hp, hx, _, _, hf => by
    have : ¬ p < s.size := by
      intro h
      rw [bt_drop h] at hx
      cases hx
    obtain ⟨f, rfl⟩ : ∃ f', f = f' + 1 := ⟨f - 1, by simp at hf; omega⟩
    rw [pas_end this, lexF_end this, List.append_nil]
  | t :: r, A, f, p, hp, hx, hfit, hl, hf => by
    obtain ⟨f, rfl⟩ : ∃ f', f = f' + 1 := ⟨f - 1, by simp at hf; omega⟩
    obtain ⟨q, hq, hr, hrest⟩ := jl_hd (t := t) (r := r)
    rw [hq] at hx
    have hA : A.length < (A ++ t :: r).length := by simp
    obtain ⟨g1, g2, g3⟩ := hfit A.length hA
    have eA : (A ++ t :: r)[A.length] = t := by simp
    rw [eA] at g1 g2 g3
    rw [List.take_left] at g2 g3
    obtain ⟨h1, h2⟩ := one_back (tiL A) g1 hp hx hr g2 g3
    obtain ⟨hlt, hst⟩ := hd_stop h2 hx
    rw [hst, lexF_on hlt (by rw [h1]; exact ⟨g1, by simp at hl; omega⟩), h1]
    have e1 : A ++ t :: r = (A ++ [t]) ++ r := by simp
    have hx2 := at_tl hx
    rw [txt_length] at hx2
    have hle := at_len hp hx
    rw [txt_length] at hle
    rw [e1] at hfit ⊢
    simp only [List.length_cons] at hl hf
    rcases hrest with ⟨rfl, rfl⟩ | ⟨hne, rfl⟩
    · exact lexF_back s [] (A ++ [t]) f _ (by omega) hx2 hfit (by simp; omega) (by omega)
    · have hb := at_hd hx2
      have hx3 : (txt s).drop (p + (tkTx t).size + 1) = jl r := at_tl (a := [32]) hx2
      simp only [List.length_cons] at hle
      show lexF s f (pas s (p + (tkTx t).size)) (A ++ [t]) = _
      rw [pas_blank hb.1 (by rw [hb.2]; decide)]
      exact lexF_back s r (A ++ [t]) f _ (by omega) hx3 hfit (by simp; omega) (by omega)
theorem jl_len : ∀ L : List Tk, (∀ t ∈ L, 1 ≤ (txt (tkTx t)).length) → L.length ≤ (jl L).length
  | [], _ => Nat.le_refl _
  | [t], h => h t (List.mem_singleton.2 rfl)
  | t :: u :: r, h => by
    have ih := jl_len (u :: r) (fun x hx => h x (List.mem_cons_of_mem _ hx))
    simp only [jl, List.length_append, List.length_cons] at ih ⊢
    have := h t (List.mem_cons_self ..)
    omega
/-- Tokens that fit come back of their joined text. -/
theorem lex_back (L : List Tk) (h : Fit L) (hl : L.length ≤ 2000) (hne : ∀ t ∈ L, 1 ≤ (tkTx t).size) : lexT (jnT (tkTs L) L.length) = (L, -1) := by
  have ht := join_jl L L.length (Nat.le_refl _)
  rw [List.take_length] at ht
  have hlen := jl_len L (fun t ht' => by rw [txt_length]; exact hne t ht')
  rw [← ht, txt_length] at hlen
  have := lexF_back (jnT (tkTs L) L.length) L [] ((jnT (tkTs L) L.length).size + 1) 0 (Nat.zero_le _) (by rw [List.drop_zero]; exact ht) (by simpa using h) (by simpa using hl) (by omega)
  exact this
theorem tkTx_pos {t : Tk} (h : tkOkB t = true) : 1 ≤ (tkTx t).size := by
  obtain ⟨h1, c, l, e, -⟩ := (show _ ∧ Hd (tkTx t) from one_back (s := tkTx t) (p := 0) (r := []) (t.k == 4) h (Nat.zero_le _) (by simp) (.inl rfl) (fun h => by rw [h]; rfl) (fun h _ => by rw [h]; rfl))
  rw [← txt_length, e]
  simp

-- what is read fits
theorem one_rex {s : ByteArray} {p : Nat} {rex : Bool} (h : (oneT s p rex).1.k = 4) : rex = true := by
  unfold oneT at h
  split at h
  · simp at h
  split at h
  · simp at h
  split at h
  · unfold qtT at h; split at h <;> simp at h
  split at h
  · rename_i hc; exact hc.2
  split at h
  · simp at h
  · simp at h
theorem one_slash {s : ByteArray} {p : Nat} {rex : Bool} (hp : p < s.size) (h : (oneT s p rex).1.k = 5) (hs : (oneT s p rex).1.s.toList = [47]) : rex = false := by
  have key : ∀ b, b ≤ s.size → p < b → (s.extract p b).toList = [47] → bt s p = 47 := by
    intro b hb hpb e
    have ht := txt_list e
    rw [txtPart, bt_drop hp, show b - p = (b - p - 1) + 1 by omega, List.take_succ_cons] at ht
    exact (List.cons.inj ht).1
  cases hr : rex with
  | false => rfl
  | true =>
    exfalso
    rw [hr] at h hs
    unfold oneT at h hs
    split at h
    · simp at h
    split at h
    · simp at h
    split at h
    · unfold qtT at h; split at h <;> simp at h
    split at h
    · unfold qtT at h; split at h <;> simp at h
    rename_i a1 a2 a3 a4
    rw [if_neg a1, if_neg a2, if_neg a3, if_neg a4] at hs
    split at hs
    · rename_i hc
      exact a4 ⟨key _ (by omega) (by omega) hs, rfl⟩
    · exact a4 ⟨key _ (by omega) (by omega) hs, rfl⟩
theorem Fit.nil : Fit [] := fun i h => by simp at h
theorem Fit.snoc {L : List Tk} {t : Tk} (h : Fit L) (ht : tkOkB t = true) (h4 : t.k = 4 → tiL L = true) (h5 : t.k = 5 → t.s.toList = [47] → tiL L = false) : Fit (L ++ [t]) := by
  intro i hi
  rw [List.length_append, List.length_singleton] at hi
  by_cases he : i < L.length
  · have := h i he
    rw [List.getElem_append_left he, List.take_append_of_le_length (by omega)]
    exact this
  · obtain rfl : i = L.length := by omega
    rw [List.take_left]
    have e : (L ++ [t])[L.length]'(by simp) = t := by simp
    rw [e]
    exact ⟨ht, h4, h5⟩
theorem lexF_fit (s : ByteArray) : ∀ (f p : Nat) (L : List Tk), Fit L → Fit (lexF s f p L).1
  | 0, p, L, _ => by unfold lexF; exact Fit.nil
  | f + 1, p, L, h => by
    unfold lexF
    split
    · rename_i hp
      split
      · rename_i hc
        exact lexF_fit s f _ _ (h.snoc hc.1 (fun h4 => one_rex h4) (fun h5 hs => one_slash hp h5 hs))
      · exact Fit.nil
    · exact h
theorem lexT_fit (s : ByteArray) : Fit (lexT s).1 := lexF_fit s _ _ [] Fit.nil
end Go.Proofs.YtapcbblfcmdbnaaDoor

namespace Go.Proofs.YtapcbblfcmdbnaaDoor
open Go.RowKit

/-- The cursor in block cb over the bytes zs. -/
def Cur (w : World) (cb : Nat) (v : Value) (zs : List Int) : Prop :=
  Bs w v zs ∧ zs.length ≤ 1048576 ∧ (zs ≠ [] → ∀ k, v.ownBlock = some k → k ≠ cb) ∧
    ∃ i h : Int, 0 ≤ i ∧ i ≤ zs.length ∧ w.heap[cb]? = some (.cells #[v, .int .i64 i, .int .i64 h] 58 (0, 0))

theorem grownBy_trans {a b c : World} {row : Option Nat} (h : a.grownBy b row) (k : b.grownBy c row) : a.grownBy c row :=
  ⟨k.os.trans h.os, k.tape.trans h.tape, k.output.trans h.output, Nat.le_trans h.size k.size, fun j hj hne => (k.block j (Nat.lt_of_lt_of_le hj h.size) hne).trans (h.block j hj hne)⟩

theorem grownBy_drewN {a b : World} {row : Option Nat} (h : a.grownBy b row) (n : Nat) : a.grownBy (b.drewN n) row := ⟨h.os, h.tape, h.output, h.size, h.block⟩

theorem grownBy_setCell (w : World) (cb j : Nat) (u : Value) : w.grownBy (w.setCell ⟨cb, j, none⟩ u) (some cb) :=
  ⟨rfl, rfl, rfl, by simp [World.setCell], fun k _ hk => Below.heap_setCell w _ u k (fun e => hk (by rw [e]))⟩

theorem Bs.other' {w w' : World} {v : Value} {zs : List Int} {row : Option Nat} (h : Bs w v zs) (hg : w.grownBy w' row) (hne : zs ≠ [] → ∀ k, v.ownBlock = some k → some k ≠ row) : Bs w' v zs := by
  by_cases hz : zs = []
  · obtain ⟨hb, ao, cap, rfl, hl, hm, hn, hc⟩ := h
    exact ⟨hb, ao, cap, rfl, hl, hm, hn, fun h => absurd hz h⟩
  · exact h.other hg (hne hz)

/-- A cursor whose block has turned to this. -/
theorem Cur.turned {w w' : World} {cb : Nat} {v : Value} {zs : List Int} (h : Cur w cb v zs) (hg : w.grownBy w' (some cb)) (i q : Int) (h0 : 0 ≤ i) (h1 : i ≤ zs.length)
    (hc : w'.heap[cb]? = some (.cells #[v, .int .i64 i, .int .i64 q] 58 (0, 0))) : Cur w' cb v zs :=
  ⟨h.1.other' hg (fun hz k hk e => h.2.2.1 hz k hk (Option.some.inj e)), h.2.1, h.2.2.1, i, q, h0, h1, hc⟩

set_option maxHeartbeats 1000000 in
theorem l1Byte_any (cb : Nat) (v : Value) (zs : List Int) (w : World) (h : Cur w cb v zs) :
    Calls Tryd.prog 56 #[.pointer (some ⟨cb, 0, none⟩)] w fun e w' => ∃ x : Int, e = .returned (.int .i64 x) ∧ 0 ≤ x ∧ x ≤ 255 ∧ Cur w' cb v zs ∧ w.grownBy w' (some cb) := by
  have H := Hid.mk h
  obtain ⟨hbs, hlen, hne, i, q, hi0, hi1, hcb⟩ := h
  obtain ⟨hb, ao, cap, hv, hl, hm, hn, hc⟩ := hbs
  subst hv
  have c0 : w.cell? ⟨cb, 0, none⟩ = some (.slice ao zs.length cap) := by rw [cell_of_row w cb 0 _ _ _ hcb]; rfl
  have c1 : w.cell? ⟨cb, 1, none⟩ = some (.int .i64 i) := by rw [cell_of_row w cb 1 _ _ _ hcb]; rfl
  have c2 : w.cell? ⟨cb, 2, none⟩ = some (.int .i64 q) := by rw [cell_of_row w cb 2 _ _ _ hcb]; rfl
  have f1 : w.frozen? ⟨cb, 1, none⟩ = false := frozen_of_row w cb 1 _ _ hcb
  have f2 : w.frozen? ⟨cb, 2, none⟩ = false := frozen_of_row w cb 2 _ _ hcb
  have e255 := Ma.and255
  unfold maxLen at hm
  obtain ⟨X, hX⟩ : ∃ X, wrap64 (wrap64 (q * 6364136223846793005) + 1442695040888963407) = X := ⟨_, rfl⟩
  have hg2 := grownBy_setCell w cb 2 (.int .i64 X)
  have hh2 := heap_setCell_same w cb 2 _ _ (.int .i64 X) hcb
  by_cases hlt : i < zs.length
  · obtain ⟨p, rfl⟩ := Int.eq_ofNat_of_zero_le hi0
    have hz : zs ≠ [] := by intro h0; rw [h0] at hlt; simp at hlt; omega
    obtain ⟨b, off, rfl, hcell⟩ := hc hz
    have hbc : b ≠ cb := hne hz b rfl
    obtain ⟨c, Hc⟩ : ∃ c, Hid (zs.getD p 0 = c) := ⟨_, rfl⟩
    have hcb2 := hb.getD p
    rw [Hc.out] at hcb2
    obtain ⟨hc0, hc1⟩ := hcb2
    have hbyte : ∀ Y, (w.setCell ⟨cb, 2, none⟩ Y).cell? ⟨b, off + p, none⟩ = some (.int .u8 c) := fun Y => by
      rw [World.cell?_of_block (w := w) (Below.heap_setCell w _ Y b hbc), ← Hc.out]
      exact hcell p (by omega)
    have hplt : (p : Int) < (zs.length : Int) := hlt
    have hg1 := grownBy_setCell (w.setCell ⟨cb, 2, none⟩ (.int .i64 X)) cb 1 (.int .i64 ((p : Int) + 1))
    have hh1 := heap_setCell_same (w.setCell ⟨cb, 2, none⟩ (.int .i64 X)) cb 1 _ _ (.int .i64 ((p : Int) + 1)) hh2
    have HE : Hid (∀ n, Cur (((w.setCell ⟨cb, 2, none⟩ (.int .i64 X)).drewN n).setCell ⟨cb, 1, none⟩ (.int .i64 ((p : Int) + 1))) cb (.slice (some ⟨b, off, none⟩) zs.length cap) zs ∧
        w.grownBy (((w.setCell ⟨cb, 2, none⟩ (.int .i64 X)).drewN n).setCell ⟨cb, 1, none⟩ (.int .i64 ((p : Int) + 1))) (some cb)) := fun n => by
      have hg : w.grownBy (((w.setCell ⟨cb, 2, none⟩ (.int .i64 X)).drewN n).setCell ⟨cb, 1, none⟩ (.int .i64 ((p : Int) + 1))) (some cb) := grownBy_drewN (grownBy_trans hg2 hg1) n
      refine ⟨H.out.turned hg ((p : Int) + 1) X (by omega) (by omega) ?_, hg⟩
      exact hh1
    clear hc hne hcell hg1 hg2 hh1 hh2 hcb
    go_enter Tryd.func56, Tryd.ntmps56
    go_wp2
    go_quiet (fail)
    go_wp2
    go_quiet (fail)
    go_wp2
    go_quiet (fail)
    go_wp2
    go_ret
    refine ⟨_, rfl, Int.emod_nonneg _ (by decide), by omega, ?_⟩
    first | exact HE.out _ | (rw [World.drewN_drewN]; exact HE.out _)
  · have HE : Hid (∀ n, Cur ((w.setCell ⟨cb, 2, none⟩ (.int .i64 X)).drewN n) cb (.slice ao zs.length cap) zs ∧ w.grownBy ((w.setCell ⟨cb, 2, none⟩ (.int .i64 X)).drewN n) (some cb)) := fun n => by
      have hg := grownBy_drewN hg2 n
      refine ⟨H.out.turned hg i X hi0 hi1 ?_, hg⟩
      exact hh2
    clear hc hne hg2 hh2 hcb
    go_enter Tryd.func56, Tryd.ntmps56
    go_wp2
    go_quiet (fail)
    go_wp2
    go_quiet (fail)
    go_wp2
    go_ret
    refine ⟨_, rfl, Int.emod_nonneg _ (by decide), by omega, ?_⟩
    first | exact HE.out _ | (rw [World.drewN_drewN]; exact HE.out _)

set_option maxHeartbeats 1000000 in
theorem l1New_any (v : Value) (zs : List Int) (w : World) (h : Bs w v zs) (hlen : zs.length ≤ 1048576) :
    Calls Tryd.prog 20 #[v] w fun e w' => e = .returned (.pointer (some ⟨w.heap.size, 0, none⟩)) ∧ Cur w' w.heap.size v zs ∧ Below w.heap.size w w' := by
  have H := Hid.mk h
  have Hlt := Hid.mk h.lt
  obtain ⟨hb, ao, cap, hv, hl, hm, hn, hc⟩ := h
  subst hv
  unfold maxLen at hm
  have HE : Hid (∀ q : Int, Cur (w.alloc (.cells #[.slice ao zs.length cap, .int .i64 0, .int .i64 q] 58)) w.heap.size (.slice ao zs.length cap) zs) := fun q => by
    refine ⟨H.out.grow ((Below.refl _ _).alloc (Nat.le_refl _) _), hlen, fun hz k hk => by have := Hlt.out hz k hk; omega, 0, q, by omega, by omega, ?_⟩
    exact heap_alloc_new w _
  clear Hlt
  go_enter Tryd.func20, Tryd.ntmps20
  go_wp2
  go_loop [3, 4] (fun hq i => ∃ (k : Nat) (q : Int), k ≤ zs.length ∧ i = .int .i64 k ∧ hq = .int .i64 q) (fun _ i => zs.length - (intOf i).toNat)
  case atStart => exact ⟨0, _, Nat.zero_le _, rfl, rfl⟩
  case round =>
    obtain ⟨k, q, hk, rfl, rfl⟩ := hrel
    by_cases hlt : k < zs.length
    · by_cases h4 : (k : Int) < 4000
      · obtain ⟨b, off, rfl, hcell⟩ := hc (by intro h0; rw [h0] at hlt; simp at hlt)
        obtain ⟨c, Hc⟩ : ∃ c, Hid (zs.getD k 0 = c) := ⟨_, rfl⟩
        have h1 : w.cell? ⟨b, off + k, none⟩ = some (.int .u8 c) := by rw [← Hc.out]; exact hcell k hlt
        clear hc hcell
        go_wp2
        go_round
        case rel => exact ⟨k + 1, _, by omega, by go_num, rfl⟩
        case measure => simp [intOf]; omega
      · clear hc
        go_wp2
        go_ret
        exact ⟨rfl, HE.out q, (Below.refl _ _).alloc (Nat.le_refl _) _⟩
    · clear hc
      go_wp2
      go_ret
      exact ⟨rfl, HE.out q, (Below.refl _ _).alloc (Nat.le_refl _) _⟩

set_option maxHeartbeats 1000000 in
theorem l1Below_any (cb : Nat) (v : Value) (zs : List Int) (n : Int) (w : World) (h : Cur w cb v zs) :
    Calls Tryd.prog 33 #[.pointer (some ⟨cb, 0, none⟩), .int .i64 n] w fun e w' => ∃ x : Int, e = .returned (.int .i64 x) ∧ 0 ≤ x ∧ (0 < n → x < n) ∧ (n ≤ 0 → x = 0) ∧ Cur w' cb v zs ∧ w.grownBy w' (some cb) := by
  have H := Hid.mk h
  clear h
  rcases (by omega : n ≤ 0 ∨ (0 < n ∧ n ≤ 256) ∨ (0 < n ∧ 256 < n)) with hn | ⟨hn, hn2⟩ | ⟨hn, hn2⟩
  · go_enter Tryd.func33, Tryd.ntmps33
    go_wp2
    go_ret
    exact ⟨0, rfl, by omega, by omega, fun _ => rfl, H.out, World.grownBy.refl _ _⟩
  · go_enter Tryd.func33, Tryd.ntmps33
    go_wp2_with fail
    refine (l1Byte_any cb v zs w H.out).mono ?_
    rintro e w1 ⟨x, rfl, hx0, hx1, hC, hg⟩
    have HC := Hid.mk hC
    have HG := Hid.mk hg
    clear hC hg
    go_wp2
    go_ret
    exact ⟨_, rfl, Int.emod_nonneg _ (by omega), fun _ => Int.emod_lt_of_pos _ hn, by omega, HC.out, HG.out⟩
  · go_enter Tryd.func33, Tryd.ntmps33
    go_wp2_with fail
    refine (l1Byte_any cb v zs w H.out).mono ?_
    rintro e w1 ⟨x, rfl, hx0, hx1, hC, hg⟩
    have HC := Hid.mk hC
    have HG := Hid.mk hg
    clear hC hg
    go_wp2_with fail
    refine (l1Byte_any cb v zs w1 HC.out).mono ?_
    rintro e w2 ⟨y, rfl, hy0, hy1, hC, hg⟩
    have HC2 := Hid.mk hC
    have HG2 := Hid.mk (grownBy_trans HG.out hg)
    clear hC hg HC HG
    go_wp2_with fail
    refine (l1Byte_any cb v zs w2 HC2.out).mono ?_
    rintro e w3 ⟨z, rfl, hz0, hz1, hC, hg⟩
    have HC3 := Hid.mk hC
    have HG3 := Hid.mk (grownBy_trans HG2.out hg)
    clear hC hg HC2 HG2
    go_wp2
    go_ret
    exact ⟨_, rfl, Int.emod_nonneg _ (by omega), fun _ => Int.emod_lt_of_pos _ hn, by omega, HC3.out, HG3.out⟩

/-- A cursor behind whatever leaves its block and its bytes' block alone. -/
theorem Cur.grow {w w' : World} {cb : Nat} {v : Value} {zs : List Int} (h : Cur w cb v zs) (hk : Below w.heap.size w w') : Cur w' cb v zs := by
  obtain ⟨hbs, hlen, hne, i, q, h0, h1, hc⟩ := h
  refine ⟨hbs.grow hk, hlen, hne, i, q, h0, h1, ?_⟩
  rw [hk.block cb (Array.getElem?_eq_some_iff.1 hc).1]
  exact hc
theorem Cur.lt {w : World} {cb : Nat} {v : Value} {zs : List Int} (h : Cur w cb v zs) : cb < w.heap.size := by
  obtain ⟨_, _, _, i, q, _, _, hc⟩ := h
  exact (Array.getElem?_eq_some_iff.1 hc).1

/-- A list of numbers in a block of its own. -/
def Nums (w : World) (lb : Nat) (xs : List Int) : Prop := w.heap[lb]? = some (.cells (xs.map (Value.int .i64)).toArray 3 (0, 0))

set_option maxHeartbeats 1000000 in
theorem l1Int_any (cb lb n : Nat) (v : Value) (zs xs : List Int) (w : World) (h : Cur w cb v zs) (hn : n = xs.length) (hpos : 0 < n) (hbig : n ≤ 1000) (hx : Nums w lb xs) (hne : lb ≠ cb) :
    Calls Tryd.prog 67 #[.pointer (some ⟨cb, 0, none⟩), .slice (some ⟨lb, 0, none⟩) n n] w fun e w' => ∃ x : Int, e = .returned (.int .i64 x) ∧ x ∈ xs ∧ Cur w' cb v zs ∧ w.grownBy w' (some cb) := by
  have H := Hid.mk h
  have HX := Hid.mk hx
  clear h hx
  have Hn := Hid.mk hn
  clear hn
  go_enter Tryd.func67, Tryd.ntmps67
  go_wp2_with fail
  refine (l1Below_any cb v zs (n : Int) w H.out).mono ?_
  rintro e w1 ⟨x, rfl, hx0, hx1, -, hC, hg⟩
  obtain ⟨p, rfl⟩ := Int.eq_ofNat_of_zero_le hx0
  have hp : p < n := by have := hx1 (by omega); omega
  have hbl : w1.heap[lb]? = w.heap[lb]? := hg.block lb (Array.getElem?_eq_some_iff.1 HX.out).1 (fun e => hne (Option.some.inj e))
  obtain ⟨y, Hy⟩ : ∃ y, Hid (xs.getD p 0 = y) := ⟨_, rfl⟩
  have hcell : w1.cell? ⟨lb, p, none⟩ = some (.int .i64 y) := by
    have h1 := HX.out
    unfold Nums at h1
    rw [cell_of_row w1 lb p _ _ _ (hbl.trans h1), ← Hy.out]
    have := Hn.out
    simp [List.getD, show p < xs.length by omega]
  have hmem : y ∈ xs := by
    have := Hn.out
    rw [← Hy.out]
    have e : xs.getD p 0 = xs[p]'(by omega) := by simp [List.getD, show p < xs.length by omega]
    rw [e]; exact List.getElem_mem _
  have HC := Hid.mk hC
  have HG := Hid.mk hg
  have HM := Hid.mk hmem
  clear hC hg hx1 hbl hmem
  go_wp2
  go_ret
  exact ⟨y, rfl, HM.out, HC.out, HG.out⟩
theorem big_any (v : Value) (zs : List Int) (w : World) (h : Bs w v zs) :
    Calls Tryd.prog 6 #[v] w fun e w' => e = .returned (.bool (decide ((1048576 : Int) < zs.length))) ∧ w' = w := by
  obtain ⟨ao, cap, rfl⟩ : ∃ ao cap, v = .slice ao zs.length cap := by obtain ⟨_, ao, cap, e, _⟩ := h; exact ⟨ao, cap, e⟩
  clear h
  go_enter Tryd.func6, Tryd.ntmps6
  go_wp2
  go_ret
  exact ⟨rfl, rfl⟩
end Go.Proofs.YtapcbblfcmdbnaaDoor

namespace Go.Proofs.YtapcbblfcmdbnaaDoor
open Go.RowKit

theorem grownBy_below {a b c : World} {row : Option Nat} {B : Nat} (hg : a.grownBy b row) (hb : Below B b c) (hB : a.heap.size ≤ B) : a.grownBy c row :=
  ⟨hb.os.trans hg.os, hb.tape.trans hg.tape, hb.output.trans hg.output, Nat.le_trans hg.size hb.size, fun k hk hne => (hb.block k (Nat.lt_of_lt_of_le hk hB)).trans (hg.block k hk hne)⟩

theorem Cur.below {w w' : World} {cb B : Nat} {v : Value} {zs : List Int} (h : Cur w cb v zs) (hk : Below B w w') (hcb : cb < B) (hv : zs ≠ [] → ∀ k, v.ownBlock = some k → k < B) : Cur w' cb v zs := by
  obtain ⟨hbs, hlen, hne, i, q, h0, h1, hc⟩ := h
  refine ⟨?_, hlen, hne, i, q, h0, h1, by rw [hk.block cb hcb]; exact hc⟩
  by_cases hz : zs = []
  · obtain ⟨hb, ao, cap, rfl, hl, hm, hn, hc⟩ := hbs
    exact ⟨hb, ao, cap, rfl, hl, hm, hn, fun h => absurd hz h⟩
  · exact hbs.below hk (hv hz)

end Go.Proofs.YtapcbblfcmdbnaaDoor

namespace Go.Proofs.YtapcbblfcmdbnaaDoor
open Go.RowKit
set_option maxRecDepth 8000

/-- Blocks other than the cursor's stay. -/
theorem gcell {W w1 : World} {cb : Nat} (hg : W.grownBy w1 (some cb)) (b : Nat) (hb : b < W.heap.size) (hne : b ≠ cb) :
    (∀ o, w1.cell? ⟨b, o, none⟩ = W.cell? ⟨b, o, none⟩) ∧ (∀ o, w1.frozen? ⟨b, o, none⟩ = W.frozen? ⟨b, o, none⟩) :=
  ⟨fun o => World.cell?_of_block (a := ⟨b, o, none⟩) (hg.block b hb (fun e => hne (Option.some.inj e))), fun o => World.frozen?_of_block (a := ⟨b, o, none⟩) (hg.block b hb (fun e => hne (Option.some.inj e)))⟩

/-- A list of texts in a block of its own. -/
def Strs (w : World) (lb : Nat) (xs : List ByteArray) : Prop := w.heap[lb]? = some (.cells (xs.map Value.string).toArray 9 (0, 0))

set_option maxHeartbeats 1000000 in
theorem l1Str_any (cb lb n : Nat) (v : Value) (zs : List Int) (xs : List ByteArray) (w : World) (h : Cur w cb v zs) (hn : n = xs.length) (hpos : 0 < n) (hbig : n ≤ 1000) (hx : Strs w lb xs) (hne : lb ≠ cb) :
    Calls Tryd.prog 34 #[.pointer (some ⟨cb, 0, none⟩), .slice (some ⟨lb, 0, none⟩) n n] w fun e w' => ∃ x : ByteArray, e = .returned (.string x) ∧ x ∈ xs ∧ Cur w' cb v zs ∧ w.grownBy w' (some cb) := by
  have H := Hid.mk h
  have HX := Hid.mk hx
  clear h hx
  have Hn := Hid.mk hn
  clear hn
  go_enter Tryd.func34, Tryd.ntmps34
  go_wp2_with fail
  refine (l1Below_any cb v zs (n : Int) w H.out).mono ?_
  rintro e w1 ⟨x, rfl, hx0, hx1, -, hC, hg⟩
  obtain ⟨p, rfl⟩ := Int.eq_ofNat_of_zero_le hx0
  have hp : p < n := by have := hx1 (by omega); omega
  have hbl : w1.heap[lb]? = w.heap[lb]? := hg.block lb (Array.getElem?_eq_some_iff.1 HX.out).1 (fun e => hne (Option.some.inj e))
  obtain ⟨y, Hy⟩ : ∃ y, Hid (xs[p]? = some y) := ⟨_, List.getElem?_eq_getElem (by have := Hn.out; omega)⟩
  have hcell : w1.cell? ⟨lb, p, none⟩ = some (.string y) := by
    have h1 := HX.out
    unfold Strs at h1
    rw [cell_of_row w1 lb p _ _ _ (hbl.trans h1)]
    simp [Hy.out]
  have hmem : y ∈ xs := List.mem_of_getElem? Hy.out
  have HC := Hid.mk hC
  have HG := Hid.mk hg
  have HM := Hid.mk hmem
  clear hC hg hx1 hbl hmem
  go_wp2
  go_ret
  exact ⟨y, rfl, HM.out, HC.out, HG.out⟩

theorem l1Once_any (cb : Nat) (v : Value) (zs : List Int) (n : Int) (w : World) (h : Cur w cb v zs) :
    Calls Tryd.prog 35 #[.pointer (some ⟨cb, 0, none⟩), .int .i64 n] w fun e w' => ∃ b : Bool, e = .returned (.bool b) ∧ Cur w' cb v zs ∧ w.grownBy w' (some cb) := by
  have H := Hid.mk h
  clear h
  go_enter Tryd.func35, Tryd.ntmps35
  go_wp2_with fail
  refine (l1Below_any cb v zs n w H.out).mono ?_
  rintro e w1 ⟨x, rfl, -, -, -, hC, hg⟩
  have HC := Hid.mk hC
  have HG := Hid.mk hg
  clear hC hg
  go_wp2
  go_ret
  exact ⟨_, rfl, HC.out, HG.out⟩
end Go.Proofs.YtapcbblfcmdbnaaDoor

namespace Go.Proofs.YtapcbblfcmdbnaaDoor
open Go.RowKit
set_option maxRecDepth 8000

theorem below_set3 (W : World) (b B : Nat) (h : B ≤ b) (x y z : Value) : Below B W (((W.setCell ⟨b, 0, none⟩ x).setCell ⟨b, 1, none⟩ y).setCell ⟨b, 2, none⟩ z) :=
  (((Below.refl _ _).setCell h _).setCell h _).setCell h _

/-- A drawn value's bounds. -/
def Fair (n : Int) (s : ByteArray) : Prop := -9223372036854775808 ≤ n ∧ n ≤ 9223372036854775807 ∧ s.size ≤ 201

end Go.Proofs.YtapcbblfcmdbnaaDoor

namespace Go.Proofs.YtapcbblfcmdbnaaDoor
open Go.RowKit
set_option maxRecDepth 8000

theorem gyNew {w w' : World} {R : Nat} (h : w.grownBy w' (some R)) (o : Obj) : w.grownBy (w'.alloc o) (some R) := grownBy_trans h (World.grownBy_alloc w' o _)
theorem wpList_append_k2 {w0 w : World} {ops : Array Oper} {rest : List Oper} {o : Oper} {a : Act} {Q : Exit → Act → World → Prop} (hgd : o.guard = none) (s x : Operand)
    (ho : o.op = .call { callee := .builtin .append, args := #[s, x], argTypes := #[24, 24] })
    (base : Nat) (v : Value) (L : List Tk) (y z : Tk) (hs : a.eval s = v) (hown : OwnK w base v L) (lb : Nat) (hx : a.eval x = .slice (some ⟨lb, 0, none⟩) 2 2)
    (hc : w.heap[lb]? = some (.cells #[.int .i64 y.k, .int .i64 y.n, .string y.s, .int .i64 z.k, .int .i64 z.n, .string z.s] 31 (0, 0)))
    (hbel : Below base w0 w) (hbase : base ≤ w.heap.size) (hlen : L.length ≤ 1000000)
    (h : ∀ v' w', OwnK w' base v' (L ++ [y, z]) → Below base w0 w' → w.heap.size ≤ w'.heap.size → Kign w w' v v' → wpList Tryd.prog ops Q rest (a.put o.dst v') w') :
    wpList Tryd.prog ops Q (o :: rest) a w := by
  obtain ⟨i0, hi, hz0, hz1, hz2⟩ := info_parts infoToken
  refine wpList_append_own_at w hgd s x 24 ho base 31 i0 _ 3 32 Tryd.underlying24 hi hz0 hz1 hz2 rfl (by decide) v L.length (tkCells L) hs hown ⟨lb, 0, none⟩ 2 2 (tkCells [y, z]) hx rfl ?_ (by simp [tkCells, Value.oneCell']) (by unfold maxLen; omega) (by omega) hbase ?_
  · intro j q hq
    rw [Addr.add_lit, Nat.zero_add, cell_of_row w lb j _ _ (0, 0) hc]
    simpa [tkCells] using hq
  · intro v' w' hown' hgr _ hat
    refine h v' w' ?_ (hbel.grown hgr hbase fun k hk => (World.ownsRow.lt hown k hk).1) hgr.size ⟨hgr, ?_⟩
    rotate_left
    · rcases hat with hat | hat
      · exact .inl hat
      · exact .inr ⟨_, Nat.le_refl _, hat⟩
    unfold OwnK
    rw [tkCells_append, List.length_append]
    exact hown'
theorem OwnK.grown {w w' : World} {base : Nat} {v : Value} {L : List Tk} {row : Nat} (h : OwnK w base v L) (hg : w.grownBy w' (some row)) (hr : row < base) : OwnK w' base v L :=
  World.ownsRow.kept (row := some row) h hg (.inr fun e => by have := h.lies _ e; omega)

/-- A drawn token. -/
def drB (t : Tk) : Bool := tkOkB t && (t.k != 4) && !tiB t && !(t.k == 5 && t.s.toList == [47]) && decide (t.s.size ≤ 8)
theorem drB_in {L : List ByteArray} {k : Int} (hL : L.all (fun y => drB ⟨k, 0, y⟩) = true) {y : ByteArray} (h : y ∈ L) : drB ⟨k, 0, y⟩ = true := List.all_eq_true.1 hL y h
theorem dr_names : ([⟨#[120]⟩, ⟨#[112, 114, 105, 110, 116]⟩, ⟨#[110, 49]⟩, ⟨#[119, 104, 105, 108, 101]⟩] : List ByteArray).all (fun y => drB ⟨2, 0, y⟩) = true := by decide +kernel
theorem dr_texts : ([⟨#[]⟩, ⟨#[97, 32, 98]⟩, ⟨#[47]⟩, ⟨#[35]⟩] : List ByteArray).all (fun y => drB ⟨3, 0, y⟩) = true := by decide +kernel
theorem dr_marks : ([⟨#[123]⟩, ⟨#[125]⟩, ⟨#[40]⟩, ⟨#[41]⟩, ⟨#[60, 61]⟩, ⟨#[61, 61]⟩, ⟨#[61]⟩, ⟨#[60]⟩, ⟨#[38, 38]⟩, ⟨#[46]⟩, ⟨#[36]⟩, ⟨#[59]⟩, ⟨#[33]⟩] : List ByteArray).all (fun y => drB ⟨5, 0, y⟩) = true := by decide +kernel
theorem dr_nums : ([0, 7, 42, 2147483647] : List Int).all (fun n => drB ⟨1, n, ⟨#[]⟩⟩) = true := by decide +kernel
def rxB (y : ByteArray) : Bool := tkOkB ⟨4, 0, y⟩ && decide (y.size ≤ 8)
theorem rx_all : ([⟨#[97, 42, 98]⟩, ⟨#[120]⟩, ⟨#[94, 91, 97, 98, 93, 43, 36]⟩] : List ByteArray).all rxB = true := by decide +kernel
theorem tilde_ok : tkOkB ⟨5, 0, ⟨#[126]⟩⟩ = true ∧ tiB ⟨5, 0, ⟨#[126]⟩⟩ = true := by decide +kernel
/-- Tokens that may be joined. -/
def FitT (L : List Tk) : Prop := Fit L ∧ (∀ t ∈ L, t.s.size ≤ 8) ∧ tiL L = false
theorem FitT.nil : FitT [] := ⟨Fit.nil, by simp, rfl⟩
theorem FitT.one {L : List Tk} {t : Tk} (h : FitT L) (ht : drB t = true) : FitT (L ++ [t]) := by
  unfold drB at ht
  simp only [Bool.and_eq_true, Bool.not_eq_true', decide_eq_true_eq] at ht
  obtain ⟨⟨⟨⟨h1, h2⟩, h3⟩, h4⟩, h5⟩ := ht
  refine ⟨h.1.snoc h1 (fun e => by rw [e] at h2; simp at h2) (fun _ _ => h.2.2), ?_, by rw [tiL_snoc]; exact h3⟩
  intro x hx
  rcases List.mem_append.1 hx with hx | hx
  · exact h.2.1 x hx
  · rw [List.mem_singleton.1 hx]; exact h5
theorem FitT.two {L : List Tk} {y : ByteArray} (h : FitT L) (hy : rxB y = true) : FitT (L ++ [⟨5, 0, ⟨#[126]⟩⟩, ⟨4, 0, y⟩]) := by
  unfold rxB at hy
  simp only [Bool.and_eq_true, decide_eq_true_eq] at hy
  obtain ⟨t1, t2⟩ := tilde_ok
  have e : L ++ [⟨5, 0, ⟨#[126]⟩⟩, ⟨4, 0, y⟩] = (L ++ [(⟨5, 0, ⟨#[126]⟩⟩ : Tk)]) ++ [⟨4, 0, y⟩] := by simp
  rw [e]
  refine ⟨(h.1.snoc t1 (fun e => by simp at e) (fun _ _ => h.2.2)).snoc hy.1 (fun _ => by rw [tiL_snoc]; exact t2) (fun e => by simp at e), ?_, by rw [tiL_snoc]; rfl⟩
  intro x hx
  simp only [List.mem_append, List.mem_singleton] at hx
  rcases hx with (hx | rfl) | rfl
  · exact h.2.1 x hx
  · show (1 : Nat) ≤ 8; omega
  · exact hy.2

set_option maxHeartbeats 2000000 in
theorem l7Token_any (cb : Nat) (v : Value) (zs : List Int) (w : World) (h : Cur w cb v zs) :
    Calls Tryd.prog 43 #[.pointer (some ⟨cb, 0, none⟩)] w fun e w' => ∃ t : Tk, e = .returned (tkV t) ∧ drB t = true ∧ Cur w' cb v zs ∧ w.grownBy w' (some cb) := by
  have A0 : ∀ o, Below w.heap.size w (w.alloc o) := fun o => (Below.refl _ _).alloc (Nat.le_refl _) _
  have hlt := h.lt
  have HV := Hid.mk (fun hz k hk => h.1.lt hz k hk)
  have C0 := Hid.mk (h.grow (A0 (.cells #[.int .i64 0, .int .i64 0, .string ⟨#[]⟩] 31)))
  have G0 := Hid.mk (World.grownBy_alloc w (.cells #[.int .i64 0, .int .i64 0, .string ⟨#[]⟩] 31) (some cb))
  clear h A0
  go_enter Tryd.func43, Tryd.ntmps43
  go_wp2_with fail
  refine (l1Below_any cb v zs 4 _ C0.out).mono ?_
  rintro e w1 ⟨x, rfl, hx0, hx4, -, hC1, hg1⟩
  have hx := hx4 (by omega)
  have hc1 : ∀ o, w1.cell? ⟨w.heap.size, o, none⟩ = (w.alloc (.cells #[.int .i64 0, .int .i64 0, .string ⟨#[]⟩] 31)).cell? ⟨w.heap.size, o, none⟩ := fun o => World.cell?_of_block (hg1.block w.heap.size (by simp) (fun e => by have := Option.some.inj e; omega))
  have hf1 : ∀ o, w1.frozen? ⟨w.heap.size, o, none⟩ = false := fun o => frozen_of_row w1 w.heap.size o _ _ ((hg1.block w.heap.size (by simp) (fun e => by have := Option.some.inj e; omega)).trans (heap_alloc_new w _))
  have hs1 := hg1.size
  simp at hs1
  have C1 := Hid.mk hC1
  have G1 := Hid.mk (grownBy_trans G0.out hg1)
  clear hC1 hg1 hx4 C0 G0
  have A1 : ∀ o, Below w1.heap.size w1 (w1.alloc o) := fun o => (Below.refl _ _).alloc (Nat.le_refl _) _
  have hcl := C1.out.lt
  by_cases h0 : x = 0
  · subst h0
    go_wp2_with fail
    refine (l1Int_any cb w1.heap.size 4 v zs [0, 7, 42, 2147483647] _ (C1.out.grow (A1 _)) rfl (by omega) (by omega) (heap_alloc_new w1 _) (by omega)).mono ?_
    rintro e w2 ⟨y, rfl, hy, hC2, hg2⟩
    have hd : drB ⟨1, y, ⟨#[]⟩⟩ = true := List.all_eq_true.1 dr_nums y hy
    have hblk : w2.heap[w.heap.size]? = w1.heap[w.heap.size]? := (hg2.block w.heap.size (by simp; omega) (fun e => by have := Option.some.inj e; omega)).trans ((A1 _).block w.heap.size (by omega))
    have hc2 : ∀ o, w2.cell? ⟨w.heap.size, o, none⟩ = w1.cell? ⟨w.heap.size, o, none⟩ := fun o => World.cell?_of_block hblk
    have hf2 : ∀ o, w2.frozen? ⟨w.heap.size, o, none⟩ = false := fun o => by rw [← hf1 o]; exact World.frozen?_of_block hblk
    have k0 : w2.cell? ⟨w.heap.size, 0, none⟩ = some (.int .i64 0) := by rw [hc2, hc1]; go_simp
    have k1 : w2.cell? ⟨w.heap.size, 1, none⟩ = some (.int .i64 0) := by rw [hc2, hc1]; go_simp
    have k2 : w2.cell? ⟨w.heap.size, 2, none⟩ = some (.string ⟨#[]⟩) := by rw [hc2, hc1]; go_simp
    have f0 := hf2 0
    have f1 := hf2 1
    have f2 := hf2 2
    have C2 := Hid.mk hC2
    have G2 := Hid.mk (grownBy_trans (gyNew G1.out _) hg2)
    have HD := Hid.mk hd
    clear hC2 hg2 hy hd hblk hc2 hf2 hc1 hf1 C1 G1 A1
    go_wp2
    refine bodyPost_ret (v := tkV ⟨1, y, ⟨#[]⟩⟩) (by simp [results, Tryd.results43, go_sem, k0, k1, k2]) rfl ⟨⟨1, y, ⟨#[]⟩⟩, rfl, HD.out, ?_, ?_⟩
    · have q : Below w.heap.size w2 (((w2.setCell ⟨w.heap.size, 0, none⟩ (.int .i64 1)).setCell ⟨w.heap.size, 1, none⟩ (.int .i64 y)).setCell ⟨w.heap.size, 2, none⟩ (.string ⟨#[]⟩)) := (((Below.refl w.heap.size w2).setCell (p := ⟨w.heap.size, 0, none⟩) (Nat.le_refl w.heap.size) _).setCell (p := ⟨w.heap.size, 1, none⟩) (Nat.le_refl w.heap.size) _).setCell (p := ⟨w.heap.size, 2, none⟩) (Nat.le_refl w.heap.size) _
      exact C2.out.below q hlt (fun hz k hk => HV.out hz k hk)
    · have q : Below w.heap.size w2 (((w2.setCell ⟨w.heap.size, 0, none⟩ (.int .i64 1)).setCell ⟨w.heap.size, 1, none⟩ (.int .i64 y)).setCell ⟨w.heap.size, 2, none⟩ (.string ⟨#[]⟩)) := (((Below.refl w.heap.size w2).setCell (p := ⟨w.heap.size, 0, none⟩) (Nat.le_refl w.heap.size) _).setCell (p := ⟨w.heap.size, 1, none⟩) (Nat.le_refl w.heap.size) _).setCell (p := ⟨w.heap.size, 2, none⟩) (Nat.le_refl w.heap.size) _
      exact grownBy_below G2.out q (Nat.le_refl _)
  by_cases h1 : x = 1
  · subst h1
    go_wp2_with fail
    refine (l1Str_any cb w1.heap.size 4 v zs [⟨#[120]⟩, ⟨#[112, 114, 105, 110, 116]⟩, ⟨#[110, 49]⟩, ⟨#[119, 104, 105, 108, 101]⟩] _ (C1.out.grow (A1 _)) rfl (by omega) (by omega) (heap_alloc_new w1 _) (by omega)).mono ?_
    rintro e w2 ⟨y, rfl, hy, hC2, hg2⟩
    have hd : drB ⟨2, 0, y⟩ = true := drB_in dr_names hy
    have hblk : w2.heap[w.heap.size]? = w1.heap[w.heap.size]? := (hg2.block w.heap.size (by simp; omega) (fun e => by have := Option.some.inj e; omega)).trans ((A1 _).block w.heap.size (by omega))
    have hc2 : ∀ o, w2.cell? ⟨w.heap.size, o, none⟩ = w1.cell? ⟨w.heap.size, o, none⟩ := fun o => World.cell?_of_block hblk
    have hf2 : ∀ o, w2.frozen? ⟨w.heap.size, o, none⟩ = false := fun o => by rw [← hf1 o]; exact World.frozen?_of_block hblk
    have k0 : w2.cell? ⟨w.heap.size, 0, none⟩ = some (.int .i64 0) := by rw [hc2, hc1]; go_simp
    have k1 : w2.cell? ⟨w.heap.size, 1, none⟩ = some (.int .i64 0) := by rw [hc2, hc1]; go_simp
    have k2 : w2.cell? ⟨w.heap.size, 2, none⟩ = some (.string ⟨#[]⟩) := by rw [hc2, hc1]; go_simp
    have f0 := hf2 0
    have f1 := hf2 1
    have f2 := hf2 2
    have C2 := Hid.mk hC2
    have G2 := Hid.mk (grownBy_trans (gyNew G1.out _) hg2)
    have HD := Hid.mk hd
    clear hC2 hg2 hy hd hblk hc2 hf2 hc1 hf1 C1 G1 A1
    go_wp2
    refine bodyPost_ret (v := tkV ⟨2, 0, y⟩) (by simp [results, Tryd.results43, go_sem, k0, k1, k2]) rfl ⟨⟨2, 0, y⟩, rfl, HD.out, ?_, ?_⟩
    · have q : Below w.heap.size w2 (((w2.setCell ⟨w.heap.size, 0, none⟩ (.int .i64 2)).setCell ⟨w.heap.size, 1, none⟩ (.int .i64 0)).setCell ⟨w.heap.size, 2, none⟩ (.string y)) := (((Below.refl w.heap.size w2).setCell (p := ⟨w.heap.size, 0, none⟩) (Nat.le_refl w.heap.size) _).setCell (p := ⟨w.heap.size, 1, none⟩) (Nat.le_refl w.heap.size) _).setCell (p := ⟨w.heap.size, 2, none⟩) (Nat.le_refl w.heap.size) _
      exact C2.out.below q hlt (fun hz k hk => HV.out hz k hk)
    · have q : Below w.heap.size w2 (((w2.setCell ⟨w.heap.size, 0, none⟩ (.int .i64 2)).setCell ⟨w.heap.size, 1, none⟩ (.int .i64 0)).setCell ⟨w.heap.size, 2, none⟩ (.string y)) := (((Below.refl w.heap.size w2).setCell (p := ⟨w.heap.size, 0, none⟩) (Nat.le_refl w.heap.size) _).setCell (p := ⟨w.heap.size, 1, none⟩) (Nat.le_refl w.heap.size) _).setCell (p := ⟨w.heap.size, 2, none⟩) (Nat.le_refl w.heap.size) _
      exact grownBy_below G2.out q (Nat.le_refl _)
  by_cases h2 : x = 2
  · subst h2
    go_wp2_with fail
    refine (l1Str_any cb w1.heap.size 4 v zs [⟨#[]⟩, ⟨#[97, 32, 98]⟩, ⟨#[47]⟩, ⟨#[35]⟩] _ (C1.out.grow (A1 _)) rfl (by omega) (by omega) (heap_alloc_new w1 _) (by omega)).mono ?_
    rintro e w2 ⟨y, rfl, hy, hC2, hg2⟩
    have hd : drB ⟨3, 0, y⟩ = true := drB_in dr_texts hy
    have hblk : w2.heap[w.heap.size]? = w1.heap[w.heap.size]? := (hg2.block w.heap.size (by simp; omega) (fun e => by have := Option.some.inj e; omega)).trans ((A1 _).block w.heap.size (by omega))
    have hc2 : ∀ o, w2.cell? ⟨w.heap.size, o, none⟩ = w1.cell? ⟨w.heap.size, o, none⟩ := fun o => World.cell?_of_block hblk
    have hf2 : ∀ o, w2.frozen? ⟨w.heap.size, o, none⟩ = false := fun o => by rw [← hf1 o]; exact World.frozen?_of_block hblk
    have k0 : w2.cell? ⟨w.heap.size, 0, none⟩ = some (.int .i64 0) := by rw [hc2, hc1]; go_simp
    have k1 : w2.cell? ⟨w.heap.size, 1, none⟩ = some (.int .i64 0) := by rw [hc2, hc1]; go_simp
    have k2 : w2.cell? ⟨w.heap.size, 2, none⟩ = some (.string ⟨#[]⟩) := by rw [hc2, hc1]; go_simp
    have f0 := hf2 0
    have f1 := hf2 1
    have f2 := hf2 2
    have C2 := Hid.mk hC2
    have G2 := Hid.mk (grownBy_trans (gyNew G1.out _) hg2)
    have HD := Hid.mk hd
    clear hC2 hg2 hy hd hblk hc2 hf2 hc1 hf1 C1 G1 A1
    go_wp2
    refine bodyPost_ret (v := tkV ⟨3, 0, y⟩) (by simp [results, Tryd.results43, go_sem, k0, k1, k2]) rfl ⟨⟨3, 0, y⟩, rfl, HD.out, ?_, ?_⟩
    · have q : Below w.heap.size w2 (((w2.setCell ⟨w.heap.size, 0, none⟩ (.int .i64 3)).setCell ⟨w.heap.size, 1, none⟩ (.int .i64 0)).setCell ⟨w.heap.size, 2, none⟩ (.string y)) := (((Below.refl w.heap.size w2).setCell (p := ⟨w.heap.size, 0, none⟩) (Nat.le_refl w.heap.size) _).setCell (p := ⟨w.heap.size, 1, none⟩) (Nat.le_refl w.heap.size) _).setCell (p := ⟨w.heap.size, 2, none⟩) (Nat.le_refl w.heap.size) _
      exact C2.out.below q hlt (fun hz k hk => HV.out hz k hk)
    · have q : Below w.heap.size w2 (((w2.setCell ⟨w.heap.size, 0, none⟩ (.int .i64 3)).setCell ⟨w.heap.size, 1, none⟩ (.int .i64 0)).setCell ⟨w.heap.size, 2, none⟩ (.string y)) := (((Below.refl w.heap.size w2).setCell (p := ⟨w.heap.size, 0, none⟩) (Nat.le_refl w.heap.size) _).setCell (p := ⟨w.heap.size, 1, none⟩) (Nat.le_refl w.heap.size) _).setCell (p := ⟨w.heap.size, 2, none⟩) (Nat.le_refl w.heap.size) _
      exact grownBy_below G2.out q (Nat.le_refl _)
  · have e0 : (x == 0) = false := beq_false_of_ne h0
    have e1 : (x == 1) = false := beq_false_of_ne h1
    have e2 : (x == 2) = false := beq_false_of_ne h2
    clear h0 h1 h2
    go_wp2_with fail
    refine (l1Str_any cb w1.heap.size 13 v zs [⟨#[123]⟩, ⟨#[125]⟩, ⟨#[40]⟩, ⟨#[41]⟩, ⟨#[60, 61]⟩, ⟨#[61, 61]⟩, ⟨#[61]⟩, ⟨#[60]⟩, ⟨#[38, 38]⟩, ⟨#[46]⟩, ⟨#[36]⟩, ⟨#[59]⟩, ⟨#[33]⟩] _ (C1.out.grow (A1 _)) rfl (by omega) (by omega) (heap_alloc_new w1 _) (by omega)).mono ?_
    rintro e w2 ⟨y, rfl, hy, hC2, hg2⟩
    have hd : drB ⟨5, 0, y⟩ = true := drB_in dr_marks hy
    have hblk : w2.heap[w.heap.size]? = w1.heap[w.heap.size]? := (hg2.block w.heap.size (by simp; omega) (fun e => by have := Option.some.inj e; omega)).trans ((A1 _).block w.heap.size (by omega))
    have hc2 : ∀ o, w2.cell? ⟨w.heap.size, o, none⟩ = w1.cell? ⟨w.heap.size, o, none⟩ := fun o => World.cell?_of_block hblk
    have hf2 : ∀ o, w2.frozen? ⟨w.heap.size, o, none⟩ = false := fun o => by rw [← hf1 o]; exact World.frozen?_of_block hblk
    have k0 : w2.cell? ⟨w.heap.size, 0, none⟩ = some (.int .i64 0) := by rw [hc2, hc1]; go_simp
    have k1 : w2.cell? ⟨w.heap.size, 1, none⟩ = some (.int .i64 0) := by rw [hc2, hc1]; go_simp
    have k2 : w2.cell? ⟨w.heap.size, 2, none⟩ = some (.string ⟨#[]⟩) := by rw [hc2, hc1]; go_simp
    have f0 := hf2 0
    have f1 := hf2 1
    have f2 := hf2 2
    have C2 := Hid.mk hC2
    have G2 := Hid.mk (grownBy_trans (gyNew G1.out _) hg2)
    have HD := Hid.mk hd
    clear hC2 hg2 hy hd hblk hc2 hf2 hc1 hf1 C1 G1 A1
    go_wp2
    refine bodyPost_ret (v := tkV ⟨5, 0, y⟩) (by simp [results, Tryd.results43, go_sem, k0, k1, k2]) rfl ⟨⟨5, 0, y⟩, rfl, HD.out, ?_, ?_⟩
    · have q : Below w.heap.size w2 (((w2.setCell ⟨w.heap.size, 0, none⟩ (.int .i64 5)).setCell ⟨w.heap.size, 1, none⟩ (.int .i64 0)).setCell ⟨w.heap.size, 2, none⟩ (.string y)) := (((Below.refl w.heap.size w2).setCell (p := ⟨w.heap.size, 0, none⟩) (Nat.le_refl w.heap.size) _).setCell (p := ⟨w.heap.size, 1, none⟩) (Nat.le_refl w.heap.size) _).setCell (p := ⟨w.heap.size, 2, none⟩) (Nat.le_refl w.heap.size) _
      exact C2.out.below q hlt (fun hz k hk => HV.out hz k hk)
    · have q : Below w.heap.size w2 (((w2.setCell ⟨w.heap.size, 0, none⟩ (.int .i64 5)).setCell ⟨w.heap.size, 1, none⟩ (.int .i64 0)).setCell ⟨w.heap.size, 2, none⟩ (.string y)) := (((Below.refl w.heap.size w2).setCell (p := ⟨w.heap.size, 0, none⟩) (Nat.le_refl w.heap.size) _).setCell (p := ⟨w.heap.size, 1, none⟩) (Nat.le_refl w.heap.size) _).setCell (p := ⟨w.heap.size, 2, none⟩) (Nat.le_refl w.heap.size) _
      exact grownBy_below G2.out q (Nat.le_refl _)

set_option maxHeartbeats 4000000 in
theorem l7Tokens_any (cb : Nat) (v : Value) (zs : List Int) (m : Nat) (w : World) (h : Cur w cb v zs) (hm : m ≤ 20) :
    Calls Tryd.prog 21 #[.pointer (some ⟨cb, 0, none⟩), .int .i64 (m : Int)] w fun e w' => ∃ (u : Value) (L : List Tk), e = .returned u ∧ OwnK w' w.heap.size u L ∧ FitT L ∧ L.length ≤ 2 * m ∧ Cur w' cb v zs ∧ w.grownBy w' (some cb) := by
  have A0 : ∀ o, Below w.heap.size w (w.alloc o) := fun o => (Below.refl _ _).alloc (Nat.le_refl _) _
  have hlt := h.lt
  have HV := Hid.mk (fun hz k hk => h.1.lt hz k hk)
  have C0 := Hid.mk (h.grow (A0 (.cells #[] 31)))
  have G0 := Hid.mk (World.grownBy_alloc w (.cells #[] 31) (some cb))
  have O0 : Hid (OwnK (w.alloc (.cells #[] 31)) w.heap.size (.slice (some ⟨w.heap.size, 0, none⟩) 0 0) []) := World.ownsRow_lit w #[] 0 (Nat.le_refl _) (by decide) rfl
  clear h A0
  go_enter Tryd.func21, Tryd.ntmps21
  go_wp2_with fail
  refine (l1Below_any cb v zs m _ C0.out).mono ?_
  rintro e w1 ⟨x, rfl, hx0, hxm, hxn, hC1, hg1⟩
  have hxm' : x ≤ (m : Int) := by
    rcases Nat.eq_zero_or_pos m with h | h
    · have := hxn (by omega); omega
    · have := hxm (by omega); omega
  have C1 := Hid.mk hC1
  have G1 := Hid.mk (grownBy_trans G0.out hg1)
  have O1 := Hid.mk (O0.out.grown hg1 hlt)
  clear hC1 hg1 hxm hxn C0 G0 O0
  go_wp2
  go_loopw [5, 6] (fun o i wr => ∃ (k : Nat) (L : List Tk) (oa : Option Addr) (oc : Nat), o = .slice oa L.length oc ∧ i = .int .i64 (k : Int) ∧ L.length + 2 * k ≤ 2 * m ∧ L.length ≤ oc ∧ Hid (OwnK wr w.heap.size (.slice oa L.length oc) L) ∧ Hid (FitT L) ∧ Hid (Cur wr cb v zs) ∧ Hid (w.grownBy wr (some cb))) (fun _ i _ => (intOf i).toNat)
  case atStart => exact ⟨x.toNat, [], _, _, rfl, by rw [Int.toNat_of_nonneg hx0], by simp; omega, Nat.zero_le _, O1, FitT.nil, C1, G1⟩
  case round =>
    obtain ⟨k, L, oa, oc, rfl, rfl, hLk, hLc, HO, HF, HC, HG⟩ := hrel
    clear C1 G1 O1
    by_cases hk : (0 : Int) < (k : Int)
    · have hL40 : L.length ≤ 40 := by omega
      have hge := HG.out.size
      go_wp2_with fail
      refine (l1Once_any cb v zs 6 _ HC.out).mono ?_
      rintro e w2 ⟨b, rfl, hC2, hg2⟩
      have C2 := Hid.mk hC2
      have G2 := Hid.mk (grownBy_trans HG.out hg2)
      have O2 := Hid.mk (HO.out.grown hg2 hlt)
      have hs2 := hg2.size
      clear hC2 hg2 HC HG HO
      cases b with
      | true =>
        have A2 : ∀ o, Below w2.heap.size w2 (w2.alloc o) := fun o => (Below.refl _ _).alloc (Nat.le_refl _) _
        have hcl := C2.out.lt
        go_wp2_with fail
        refine (l1Str_any cb w2.heap.size 3 v zs [⟨#[97, 42, 98]⟩, ⟨#[120]⟩, ⟨#[94, 91, 97, 98, 93, 43, 36]⟩] _ (C2.out.grow (A2 _)) rfl (by omega) (by omega) (heap_alloc_new w2 _) (by omega)).mono ?_
        rintro e w3 ⟨y, rfl, hy, hC3, hg3⟩
        have HR := Hid.mk (List.all_eq_true.1 rx_all y hy)
        have C3 := Hid.mk hC3
        have G3 := Hid.mk (grownBy_trans (gyNew G2.out _) hg3)
        have O3 := Hid.mk ((O2.out.grow (A2 _)).grown hg3 hlt)
        have hs3 : w2.heap.size + 1 ≤ w3.heap.size := by have := hg3.size; simpa using this
        clear hC3 hg3 hy C2 G2 O2 A2 hcl
        have A3 : Below w3.heap.size w3 (w3.alloc (.cells #[.int .i64 5, .int .i64 0, .string ⟨#[126]⟩, .int .i64 4, .int .i64 0, .string y] 31)) := (Below.refl _ _).alloc (Nat.le_refl _) _
        have O4 := Hid.mk (O3.out.grow A3)
        have HN := Hid.mk (heap_alloc_new w3 (.cells #[.int .i64 5, .int .i64 0, .string ⟨#[126]⟩, .int .i64 4, .int .i64 0, .string y] 31))
        have hA3 : w.heap.size ≤ (w3.alloc (.cells #[.int .i64 5, .int .i64 0, .string ⟨#[126]⟩, .int .i64 4, .int .i64 0, .string y] 31)).heap.size := by simp; omega
        go_wp2_with (at_builtin; refine wpList_append_k2 (w0 := w3.alloc (.cells #[.int .i64 5, .int .i64 0, .string ⟨#[126]⟩, .int .i64 4, .int .i64 0, .string y] 31)) rfl _ _ rfl w.heap.size _ L ⟨5, 0, ⟨#[126]⟩⟩ ⟨4, 0, y⟩ rfl O4.out _ rfl HN.out (Below.refl _ _) hA3 (by omega) ?_)
        intro v5 w5 hown5 hbel5 hq5 hn5
        obtain ⟨va, vc, hv5, hvc⟩ := hown5.lenV
        subst hv5
        have HF5 := Hid.mk (HF.out.two HR.out)
        have C5 := Hid.mk ((C3.out.grow A3).below hbel5 hlt (fun hz k hk => HV.out hz k hk))
        have G5 := Hid.mk (grownBy_below (gyNew G3.out _) hbel5 (Nat.le_refl _))
        have hll : (L ++ [(⟨5, 0, ⟨#[126]⟩⟩ : Tk), ⟨4, 0, y⟩]).length = L.length + 2 := by simp
        obtain ⟨L', hL'⟩ : ∃ L', L ++ [(⟨5, 0, ⟨#[126]⟩⟩ : Tk), ⟨4, 0, y⟩] = L' := ⟨_, rfl⟩
        rw [hL'] at hown5 HF5 hll hvc ⊢
        have O5 := Hid.mk hown5
        clear hown5 hbel5 hq5 hn5 hL' C3 G3 O3 A3 O4 HN hA3 HF HR
        go_wp2
        go_roundw
        case rel => exact ⟨k - 1, L', va, vc, rfl, by go_num, by omega, hvc, O5, HF5, C5, G5⟩
        case measure => simp [intOf]; omega
      | false =>
        go_wp2_with fail
        refine (l7Token_any cb v zs _ C2.out).mono ?_
        rintro e w3 ⟨⟨tk, tn, ts⟩, rfl, ht, hC3, hg3⟩
        have HR := Hid.mk ht
        have C3 := Hid.mk hC3
        have G3 := Hid.mk (grownBy_trans G2.out hg3)
        have O3 := Hid.mk (O2.out.grown hg3 hlt)
        have hs3 := hg3.size
        clear hC3 hg3 ht C2 G2 O2
        have A3 : Below w3.heap.size w3 (w3.alloc (.cells #[.int .i64 tk, .int .i64 tn, .string ts] 31)) := (Below.refl _ _).alloc (Nat.le_refl _) _
        have O4 := Hid.mk (O3.out.grow A3)
        have HN := Hid.mk (heap_alloc_new w3 (.cells #[.int .i64 tk, .int .i64 tn, .string ts] 31))
        have hA3 : w.heap.size ≤ (w3.alloc (.cells #[.int .i64 tk, .int .i64 tn, .string ts] 31)).heap.size := by simp; omega
        go_wp2_with (at_builtin; refine wpList_append_k (w0 := w3.alloc (.cells #[.int .i64 tk, .int .i64 tn, .string ts] 31)) rfl _ _ rfl w.heap.size _ L ⟨tk, tn, ts⟩ rfl O4.out _ rfl HN.out (Below.refl _ _) hA3 (by omega) ?_)
        intro v5 w5 hown5 hbel5 hq5 hn5
        obtain ⟨va, vc, hv5, hvc⟩ := hown5.lenV
        subst hv5
        have HF5 := Hid.mk (HF.out.one HR.out)
        have C5 := Hid.mk ((C3.out.grow A3).below hbel5 hlt (fun hz k hk => HV.out hz k hk))
        have G5 := Hid.mk (grownBy_below (gyNew G3.out _) hbel5 (Nat.le_refl _))
        have hll : (L ++ [(⟨tk, tn, ts⟩ : Tk)]).length = L.length + 1 := by simp
        obtain ⟨L', hL'⟩ : ∃ L', L ++ [(⟨tk, tn, ts⟩ : Tk)] = L' := ⟨_, rfl⟩
        rw [hL'] at hown5 HF5 hll hvc ⊢
        have O5 := Hid.mk hown5
        clear hown5 hbel5 hq5 hn5 hL' C3 G3 O3 A3 O4 HN hA3 HF HR
        go_wp2
        go_roundw
        case rel => exact ⟨k - 1, L', va, vc, rfl, by go_num, by omega, hvc, O5, HF5, C5, G5⟩
        case measure => simp [intOf]; omega
    · go_wp2
      go_ret
      exact ⟨_, rfl, L, HO.out, HF.out, by omega, HC.out, HG.out⟩
end Go.Proofs.YtapcbblfcmdbnaaDoor
