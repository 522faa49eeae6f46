/- Tokens copied by the laws. -/
import Derived.Test.YtapcbblfcmdbnaaDoorTokLeaf
namespace Go.Proofs.YtapcbblfcmdbnaaDoor
open Go.RowKit
set_option maxRecDepth 8000

def tk0 : Tk := ⟨0, 0, ⟨#[]⟩⟩
/-- The cells of tokens. -/
def tkCells : List Tk → List Value
  | [] => []
  | x :: r => .int .i64 x.k :: .int .i64 x.n :: .string x.s :: tkCells r
theorem tkCells_len (L : List Tk) : (tkCells L).length = L.length * 3 := by
  induction L with
  | nil => rfl
  | cons x r ih => simp only [tkCells, List.length_cons, ih]; omega
theorem tkCells_get : ∀ (L : List Tk) (i : Nat) (h : i < L.length), (tkCells L)[i * 3]? = some (.int .i64 L[i].k) ∧ (tkCells L)[i * 3 + 1]? = some (.int .i64 L[i].n) ∧ (tkCells L)[i * 3 + 2]? = some (.string L[i].s)
  | x :: r, 0, _ => ⟨rfl, rfl, rfl⟩
  | x :: r, i + 1, h => by
    obtain ⟨h0, h1, h2⟩ := tkCells_get r i (by simpa using h)
    rw [show (i + 1) * 3 = i * 3 + 3 by omega]
    exact ⟨by simpa [tkCells] using h0, by simpa [tkCells] using h1, by simpa [tkCells] using h2⟩
theorem tkCells_set : ∀ (L : List Tk) (i : Nat) (x : Tk), i < L.length → (((tkCells L).set (i * 3) (.int .i64 x.k)).set (i * 3 + 1) (.int .i64 x.n)).set (i * 3 + 2) (.string x.s) = tkCells (L.set i x)
  | y :: r, 0, x, _ => rfl
  | y :: r, i + 1, x, h => by
    have ih := tkCells_set r i x (by simpa using h)
    rw [show (i + 1) * 3 = i * 3 + 3 by omega]
    simp only [tkCells, List.set_cons_succ, show i * 3 + 3 + 1 = i * 3 + 1 + 3 by omega, show i * 3 + 3 + 2 = i * 3 + 2 + 3 by omega]
    rw [ih]
theorem tkCells_app (L M : List Tk) : tkCells (L ++ M) = tkCells L ++ tkCells M := by
  induction L with
  | nil => rfl
  | cons x r ih => simp [tkCells, ih]

/-- The block g holds these tokens. -/
def TB (w : World) (g : Nat) (L : List Tk) : Prop := w.heap[g]? = some (.cells (tkCells L).toArray 31 (0, 0))
theorem TB.lt {w : World} {g : Nat} {L : List Tk} (h : TB w g L) : g < w.heap.size := (Array.getElem?_eq_some_iff.1 h).1
theorem TB.kept {w w' : World} {g : Nat} {L : List Tk} (h : TB w g L) (hh : w'.heap[g]? = w.heap[g]?) : TB w' g L := by unfold TB; rw [hh]; exact h
theorem TB.grow {w w' : World} {g : Nat} {L : List Tk} (h : TB w g L) (hb : Below w.heap.size w w') : TB w' g L := h.kept (hb.block g h.lt)
theorem TB.at3 {w : World} {g : Nat} {L : List Tk} (h : TB w g L) {i : Nat} (hi : i < L.length) : Tk3 w g (i * 3) L[i] := by
  obtain ⟨h0, h1, h2⟩ := tkCells_get L i hi
  refine ⟨?_, ?_, ?_⟩ <;> rw [cell_of_row w g _ _ _ (0, 0) h, List.getElem?_toArray]
  · exact h0
  · exact h1
  · exact h2
theorem TB.fr {w : World} {g : Nat} {L : List Tk} (h : TB w g L) (o : Nat) : w.frozen? ⟨g, o, none⟩ = false := frozen_of_row w g o _ _ h
/-- A token stored. -/
abbrev stTk (w : World) (g i : Nat) (x : Tk) : World := ((w.setCell ⟨g, i * 3, none⟩ (.int .i64 x.k)).setCell ⟨g, i * 3 + 1, none⟩ (.int .i64 x.n)).setCell ⟨g, i * 3 + 2, none⟩ (.string x.s)
theorem TB.set {w : World} {g : Nat} {L : List Tk} (h : TB w g L) {i : Nat} (hi : i < L.length) (x : Tk) : TB (stTk w g i x) g (L.set i x) := by
  unfold TB stTk
  have h1 := heap_setCell_same w g (i * 3) _ _ (.int .i64 x.k) h
  have h2 := heap_setCell_same _ g (i * 3 + 1) _ _ (.int .i64 x.n) h1
  have h3 := heap_setCell_same _ g (i * 3 + 2) _ _ (.string x.s) h2
  rw [h3, ← tkCells_set L i x hi]
  simp only [List.setIfInBounds_toArray]
theorem TB.tl {w : World} {g : Nat} {L : List Tk} (h : TB w g L) (hl : L.length ≤ maxLen) (hs : ∀ x ∈ L, x.s.size ≤ maxLen) : Tl w L (.slice (some ⟨g, 0, none⟩) L.length L.length) :=
  ⟨some ⟨g, 0, none⟩, L.length, rfl, Nat.le_refl _, hl, (fun h => by cases h), hs, fun _ => ⟨g, 0, rfl, fun i hi => by rw [Nat.zero_add]; exact h.at3 hi⟩⟩

theorem infoToken : (Tryd.prog.info? 31).map (fun i => (i.zero, i.size, i.bytes)) = some (some (.agg #[.int .i64 0, .int .i64 0, .string ⟨#[]⟩]), 3, 32) := by kernel_rfl
theorem own_fullK {w : World} {e : TypeId} {g m c : Nat} {xs : List Value} (h : w.ownsRow 0 e c (.slice (some ⟨g, 0, none⟩) m m) m xs) : w.heap[g]? = some (.cells xs.toArray e (0, 0)) := by
  rcases h.2 with ⟨h', _⟩ | ⟨g', cap', cur, h', hb, hg, hn, hm, hs, ht⟩
  · simp at h'
  · simp only [Value.slice.injEq, Option.some.injEq, Addr.mk.injEq, and_true, true_and] at h'
    obtain ⟨rfl, rfl⟩ := h'
    rw [hg]
    congr 2
    rw [← ht, List.take_of_length_le (by rw [Array.length_toList, hs]; exact Nat.le_refl _)]
theorem made_tk (n : Nat) : (madeCells (Value.agg #[.int .i64 0, .int .i64 0, .string ⟨#[]⟩]).cells (n * 3)).toList = tkCells (List.replicate n tk0) := by
  have e : (Value.agg #[.int .i64 0, .int .i64 0, .string ⟨#[]⟩]).cells = #[.int .i64 0, .int .i64 0, .string ⟨#[]⟩] := rfl
  rw [e]
  apply List.ext_getElem?
  intro q
  by_cases hq : q < n * 3
  · have hi : q / 3 < (List.replicate n tk0).length := by simp; omega
    obtain ⟨h0, h1, h2⟩ := tkCells_get (List.replicate n tk0) (q / 3) hi
    simp only [List.getElem_replicate, tk0] at h0 h1 h2
    rcases (show q % 3 = 0 ∨ q % 3 = 1 ∨ q % 3 = 2 by omega) with h | h | h
    · rw [show (tkCells (List.replicate n tk0))[q]? = (tkCells (List.replicate n tk0))[q / 3 * 3]? by congr 1; omega, tk0, h0]; simp [madeCells, hq, h]
    · rw [show (tkCells (List.replicate n tk0))[q]? = (tkCells (List.replicate n tk0))[q / 3 * 3 + 1]? by congr 1; omega, tk0, h1]; simp [madeCells, hq, h]
    · rw [show (tkCells (List.replicate n tk0))[q]? = (tkCells (List.replicate n tk0))[q / 3 * 3 + 2]? by congr 1; omega, tk0, h2]; simp [madeCells, hq, h]
  · rw [List.getElem?_eq_none (by simp [madeCells]; omega), List.getElem?_eq_none (by rw [tkCells_len]; simp; omega)]

/-- The first k tokens are laid. -/
def filK (N : List Tk) (k : Nat) : List Tk := N.take k ++ List.replicate (N.length - k) tk0
theorem filK_len (N : List Tk) (k : Nat) (h : k ≤ N.length) : (filK N k).length = N.length := by simp [filK]; omega
theorem filK_zero (N : List Tk) : filK N 0 = List.replicate N.length tk0 := by simp [filK]
theorem filK_all (N : List Tk) : filK N N.length = N := by simp [filK]
theorem filK_set (N : List Tk) (k : Nat) (h : k < N.length) : (filK N k).set k N[k] = filK N (k + 1) := by
  unfold filK
  rw [List.set_append_right _ _ (by simp; omega), show k - (N.take k).length = 0 by simp; omega, show N.length - k = N.length - (k + 1) + 1 by omega, List.replicate_succ, List.set_cons_zero, List.take_succ_eq_append_getElem h, List.append_assoc]
  rfl

end Go.Proofs.YtapcbblfcmdbnaaDoor
