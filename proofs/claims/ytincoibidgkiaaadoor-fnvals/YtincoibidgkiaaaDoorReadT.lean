/- Plain facts on reading texts: the bytes as a string; what the built-in conversion of bytes to a string comes to. -/
import Derived.Test.YtincoibidgkiaaaDoorRead
import Derived.Laws.IdiomStrings
namespace Go.Proofs.YtincoibidgkiaaaDoor
open Go.RowKit

/-- Bytes as a string. -/
def strOf (l : List Int) : ByteArray := ⟨(l.map fun z => UInt8.ofNat z.toNat).toArray⟩

theorem u8_back (z : Int) (h0 : 0 ≤ z) (h1 : z ≤ 255) : ((UInt8.ofNat z.toNat).toNat : Int) = z := by
  rw [UInt8.toNat_ofNat']
  omega

theorem run_strOf {w : World} {b off n cap : Nat} {zs : List Int} (h : Bs w (.slice (some ⟨b, off, none⟩) n cap) zs) (hn : n = zs.length) :
    (convert 22 9 (.slice (some ⟨b, off, none⟩) n cap)).run Tryd.prog w = .ok (.string (strOf zs)) w := by
  have hl : (zs.map fun z => UInt8.ofNat z.toNat).length = n := by simp [hn]
  have := run_convert_bytes_back (P := Tryd.prog) w 22 9 5 ⟨b, off, none⟩ cap (zs.map fun z => UInt8.ofNat z.toNat) Tryd.underlying22 Tryd.underlying5 Tryd.underlying9 (fun j hj => by
    have hj' : j < zs.length := by simpa using hj
    rw [Addr.add_lit, h.cellAt hj']
    have hb := h.1.getD j
    have e : zs.getD j 0 = zs[j] := by simp [List.getD, hj']
    rw [e] at hb ⊢
    simp only [List.getElem_map]
    rw [u8_back _ hb.1 hb.2])
  rw [hl] at this
  exact this

theorem run_strOf_none (w : World) (a : Addr) (cap : Nat) :
    (convert 22 9 (.slice (some a) 0 cap)).run Tryd.prog w = .ok (.string (strOf [])) w :=
  run_convert_bytes_back (P := Tryd.prog) w 22 9 5 a cap [] Tryd.underlying22 Tryd.underlying5 Tryd.underlying9 (fun j hj => by simp at hj)

theorem run_strOf_any {w : World} {v : Value} {zs : List Int} (h : Bs w v zs) : (convert 22 9 v).run Tryd.prog w = .ok (.string (strOf zs)) w := by
  by_cases hz : 0 < zs.length
  · obtain ⟨b, off, cap, rfl, _, _⟩ := h.addr hz
    exact run_strOf h rfl
  · have hz' : zs = [] := List.eq_nil_of_length_eq_zero (by omega)
    obtain ⟨_, ao, cap, rfl, _, _, hn, _⟩ := h
    subst hz'
    cases ao with
    | some a => exact run_strOf_none w a cap
    | none =>
      have := hn rfl
      subst this
      show (convert 22 9 (.slice none 0 0)).run Tryd.prog w = _
      rw [run_convert_bytes_string w 22 9 5 none 0 0 Tryd.underlying22 Tryd.underlying5 Tryd.underlying9]
      simp [Conv.bytesToString]
      rfl

theorem strOf_size (l : List Int) : (strOf l).size = l.length := by
  show (l.map fun z => UInt8.ofNat z.toNat).toArray.size = l.length
  simp

def gT (zs : List Int) (a : Int) : ByteArray × Int × Bool :=
  if (gU zs a).2.2 = false ∨ zs.length - (gU zs a).2.1 < (gU zs a).1 then (⟨#[]⟩, 0, false)
  else (strOf ((zs.drop (gU zs a).2.1.toNat).take (gU zs a).1.toNat), (gU zs a).2.1 + (gU zs a).1, true)

def tripT (r : ByteArray × Int × Bool) : Value := .tuple #[.string r.1, .int .i64 r.2.1, .bool r.2.2]

theorem cg_le (f : Nat) (l : List Int) : cg f l ≤ l.length := by
  induction f generalizing l with
  | zero => simp [cg]
  | succ f ih =>
    cases l with
    | nil => simp [cg]
    | cons c r =>
      have := ih r
      unfold cg
      split
      · simp
      · split <;> simp <;> omega

theorem gU_ok {zs : List Int} {a n x : Int} (h : gU zs a = (n, x, true)) : 0 ≤ n ∧ n ≤ 2147483647 ∧ 1 ≤ x ∧ x ≤ zs.length := by
  unfold gU at h
  split at h
  · rename_i ha
    unfold gUat at h
    split at h
    · simp at h
    · rename_i hc
      split at h
      · simp at h
      · rename_i hj
        simp only [Prod.mk.injEq, and_true] at h
        have hb := jn_bd (zs.drop a.toNat) (cg 5 (zs.drop a.toNat))
        have hl := cg_le 5 (zs.drop a.toNat)
        rw [List.length_drop] at hl
        obtain ⟨h1, h2⟩ := h
        rw [← h1, ← h2]
        refine ⟨hb.1, by omega, by omega, by omega⟩
  · simp at h
end Go.Proofs.YtincoibidgkiaaaDoor
