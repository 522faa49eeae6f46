/- Bytes as a string; what the built-in conversion of bytes to a string comes to. -/
import Derived.Test.YtgigalcajgjpnaaGreatBytes
import Derived.Laws.IdiomStrings
namespace Go.Proofs.YtgigalcajgjpnaaGreat
open Go.RowKit

/-- Bytes as a string. -/
def strOf (l : List Int) : ByteArray := ⟨(l.map fun z => UInt8.ofNat z.toNat).toArray⟩

theorem u8_back (z : Int) (h0 : 0 ≤ z) (h1 : z ≤ 255) : ((UInt8.ofNat z.toNat).toNat : Int) = z := by
  rw [UInt8.toNat_ofNat']
  omega

theorem run_strOf {w : World} {b off n cap : Nat} {zs : List Int} (h : Bs w (.slice (some ⟨b, off, none⟩) n cap) zs) (hn : n = zs.length) :
    (convert 62 9 (.slice (some ⟨b, off, none⟩) n cap)).run Tryz.prog w = .ok (.string (strOf zs)) w := by
  have hl : (zs.map fun z => UInt8.ofNat z.toNat).length = n := by simp [hn]
  have := run_convert_bytes_back (P := Tryz.prog) w 62 9 5 ⟨b, off, none⟩ cap (zs.map fun z => UInt8.ofNat z.toNat) Tryz.underlying62 Tryz.underlying5 Tryz.underlying9 (fun j hj => by
    have hj' : j < zs.length := by simpa using hj
    rw [Addr.add_lit, h.cellAt hj']
    have hb := h.1.getD j
    have e : zs.getD j 0 = zs[j] := by simp [List.getD, hj']
    rw [e] at hb ⊢
    simp only [List.getElem_map]
    rw [u8_back _ hb.1 hb.2])
  rw [hl] at this
  exact this

theorem run_strOf_none (w : World) (a : Addr) (cap : Nat) :
    (convert 62 9 (.slice (some a) 0 cap)).run Tryz.prog w = .ok (.string (strOf [])) w :=
  run_convert_bytes_back (P := Tryz.prog) w 62 9 5 a cap [] Tryz.underlying62 Tryz.underlying5 Tryz.underlying9 (fun j hj => by simp at hj)

theorem run_strOf_any {w : World} {v : Value} {zs : List Int} (h : Bs w v zs) : (convert 62 9 v).run Tryz.prog w = .ok (.string (strOf zs)) w := by
  by_cases hz : 0 < zs.length
  · obtain ⟨b, off, cap, rfl, _, _⟩ := h.addr hz
    exact run_strOf h rfl
  · have hz' : zs = [] := List.eq_nil_of_length_eq_zero (by omega)
    obtain ⟨_, ao, cap, rfl, _, _, hn, _⟩ := h
    subst hz'
    cases ao with
    | some a => exact run_strOf_none w a cap
    | none =>
      have := hn rfl
      subst this
      show (convert 62 9 (.slice none 0 0)).run Tryz.prog w = _
      rw [run_convert_bytes_string w 62 9 5 none 0 0 Tryz.underlying62 Tryz.underlying5 Tryz.underlying9]
      simp [Conv.bytesToString]
      rfl

theorem strOf_size (l : List Int) : (strOf l).size = l.length := by
  show (l.map fun z => UInt8.ofNat z.toNat).toArray.size = l.length
  simp

end Go.Proofs.YtgigalcajgjpnaaGreat
