/- The law FnExactJoinTokens walked: at every list of tokens the program's JoinTokens answers what the document's model of it answers; it writes into no argument. -/
import Derived.Test.YtkdjkkldnidmjaaDoorTokJoin
import Derived.Test.YtkdjkkldnidmjaaDoorTokTrod
namespace Go.Proofs.YtkdjkkldnidmjaaDoor
open Go.RowKit
set_option maxRecDepth 8000

set_option maxHeartbeats 2000000 in
theorem fnExactJoinTokens_walk (N : List Tk) (v : Value) (w : World) (h : Tl w N v) (ht : Tab w) :
    Calls Tryd.prog 7 #[v] w fun e w' => e = .returned (.bool true) ∧ Below w.heap.size w w' := by
  have HS := Hid.mk (szTokenS_any N v w h)
  have HT := Hid.mk (fun hz (w' : World) (hb : Below w.heap.size w w') => toTokenS_any N v w' (h.grow hb) hz)
  have HSO := Hid.mk (fun hz (w' : World) (u : Value) (h : Tl w' N u) => specJoinTokens_any N u w' h hz)
  have HIO := Hid.mk (fun hz (w' : World) (hb : Below w.heap.size w w') (u : Value) (h : Tl w' N u) => implJoinTokens_any N u w' h hz (ht.grow hb))
  have HEQ := Hid.mk (fun (w' : World) (u u' : Value) (h : Tl w' N u) (h' : Tl w' N u') => eqTokenS_same N u u' w' h h')
  have HTL : Hid (∀ w' g, N.length ≤ 1048576 → TB w' g N → Tl w' N (.slice (some ⟨g, 0, none⟩) N.length N.length)) := fun w' g hz hb => by
    obtain ⟨ao, cap, rfl, hl1, hm, hn, hsz, hc⟩ := id h
    exact hb.tl (by unfold maxLen; omega) hsz
  generalize jnT (tkTs N) N.length = R at *
  obtain ⟨ao, cap, rfl, hl1, hm, -⟩ := h
  clear ht
  generalize hn : N.length = n at *
  clear hn
  go_enter Tryd.func7, Tryd.ntmps7
  go_wp2_with fail
  refine HS.out.mono ?_
  rintro e w1 ⟨m, rfl, hm1, B1⟩
  clear HS
  by_cases hneg : m < 0
  · clear HT HSO HIO HEQ HTL hm1
    go_wp2
    go_ret
    exact ⟨rfl, B1⟩
  have hz := hm1 (by omega)
  have HT' := Hid.mk (HT.out (by omega))
  have HSO' := Hid.mk (HSO.out hz)
  have HIO' := Hid.mk (HIO.out hz)
  have HTL' := Hid.mk (fun w' g => HTL.out w' g (by omega))
  have HR : (R.toList != R.toList) = false := by simp
  clear HT HSO HIO HTL hm1
  go_wp2_with fail
  refine (HT'.out _ B1).mono ?_
  rintro e w2 ⟨rfl, hb2, D2⟩
  have B2 := Hid.mk (B1.trans (D2.mono B1.size))
  have T2 := Hid.mk (HTL'.out _ _ hb2)
  clear hb2 D2 B1
  go_wp2_with fail
  refine (HSO'.out _ _ T2.out).mono ?_
  rintro e w3 ⟨rfl, D3⟩
  have B3 := Hid.mk (B2.out.trans (D3.mono B2.out.size))
  clear D3 B2 T2 HSO'
  go_wp2_with fail
  refine (HT'.out _ B3.out).mono ?_
  rintro e w4 ⟨rfl, hb4, D4⟩
  have B4 := Hid.mk (B3.out.trans (D4.mono B3.out.size))
  have T4 := Hid.mk (HTL'.out _ _ hb4)
  generalize w3.heap.size = N3 at *
  clear hb4 D4 B3
  go_wp2_with fail
  refine (HIO'.out _ B4.out _ T4.out).mono ?_
  rintro e w5 ⟨rfl, D5⟩
  have B5 := Hid.mk (B4.out.trans (D5.mono B4.out.size))
  have T5 := Hid.mk (T4.out.grow D5)
  clear D5 B4 T4 HIO'
  go_wp2_with fail
  refine (HT'.out _ B5.out).mono ?_
  rintro e w6 ⟨rfl, hb6, D6⟩
  have B6 := Hid.mk (B5.out.trans (D6.mono B5.out.size))
  have T6 := Hid.mk (HTL'.out _ _ hb6)
  have U6 := Hid.mk (T5.out.grow D6)
  generalize w5.heap.size = N5 at *
  clear hb6 D6 B5 T5 HT'
  go_wp2_with fail
  refine (HEQ.out _ _ _ U6.out T6.out).mono ?_
  rintro e w7 ⟨rfl, D7⟩
  have B7 := Hid.mk (B6.out.trans (D7.mono B6.out.size))
  clear D7 B6 U6 T6 HEQ HTL'
  go_wp2
  go_ret
  exact ⟨rfl, B7.out⟩
end Go.Proofs.YtkdjkkldnidmjaaDoor
