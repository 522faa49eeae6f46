/- What the draws of chapter 1 hand over: some number; some bytes, in memory of their own. Which ones, no law asks. -/
import Derived.Test.YtincoibidgkiaaaCur
import Derived.Test.YtincoibidgkiaaaApp
namespace Go.Proofs.Ytincoibidgkiaaa
open Go.RowKit

theorem grownBy_below {a b c : World} {row : Option Nat} {B : Nat} (hg : a.grownBy b row) (hb : Below B b c) (hB : a.heap.size ≤ B) : a.grownBy c row :=
  ⟨hb.os.trans hg.os, hb.tape.trans hg.tape, hb.output.trans hg.output, Nat.le_trans hg.size hb.size, fun k hk hne => (hb.block k (Nat.lt_of_lt_of_le hk hB)).trans (hg.block k hk hne)⟩

theorem Cur.below {w w' : World} {cb B : Nat} {v : Value} {zs : List Int} (h : Cur w cb v zs) (hk : Below B w w') (hcb : cb < B) (hv : zs ≠ [] → ∀ k, v.ownBlock = some k → k < B) : Cur w' cb v zs := by
  obtain ⟨hbs, hlen, hne, i, q, h0, h1, hc⟩ := h
  refine ⟨?_, hlen, hne, i, q, h0, h1, by rw [hk.block cb hcb]; exact hc⟩
  by_cases hz : zs = []
  · obtain ⟨hb, ao, cap, rfl, hl, hm, hn, hc⟩ := hbs
    exact ⟨hb, ao, cap, rfl, hl, hm, hn, fun h => absurd hz h⟩
  · exact hbs.below hk (hv hz)

theorem Own.mono {w : World} {base base' : Nat} {v : Value} {xs : List Int} (h : Own w base v xs) (hb : base' ≤ base) : Own w base' v xs := by
  refine ⟨h.1, ?_⟩
  rcases h.2 with h2 | ⟨g, cap, cur, h1, h2, h3⟩
  · exact Or.inl h2
  · exact Or.inr ⟨g, cap, cur, h1, by omega, h3⟩

/-- Some number. -/
theorem l1Num_any (cb : Nat) (v : Value) (zs : List Int) (w : World) (h : Cur w cb v zs) :
    Calls Try.prog 57 #[.pointer (some ⟨cb, 0, none⟩)] w fun e w' => ∃ x : Int, e = .returned (.int .i64 x) ∧ Cur w' cb v zs ∧ w.grownBy w' (some cb) := by
  have H := Hid.mk h
  clear h
  go_enter Try.func57, Try.ntmps57
  go_wp2_with fail
  refine (l1Below_any cb v zs 100000 w H.out).mono ?_
  rintro e w1 ⟨y, rfl, -, -, -, hC, hg⟩
  have HC := Hid.mk hC
  have HG := Hid.mk hg
  clear hC hg
  go_wp2_with fail
  refine (l1Int_any cb w1.heap.size 18 v zs [0, 1, -1, 63, 64, -64, -65, 127, 128, 300, 2147483647, -2147483648, 2147483648, -2147483649, 4294967296, 9223372036854775807, -9223372036854775808, y] _
    (HC.out.grow ((Below.refl _ _).alloc (Nat.le_refl _) _)) rfl (by omega) (by omega) (heap_alloc_new w1 _) (by have := HC.out.lt; omega)).mono ?_
  rintro e w2 ⟨x, rfl, -, hC, hg⟩
  have HC2 := Hid.mk hC
  have HG2 := Hid.mk (grownBy_trans (grownBy_trans HG.out (World.grownBy_alloc w1 _ _)) hg)
  clear hC hg HC HG
  go_wp2
  go_ret
  exact ⟨x, rfl, HC2.out, HG2.out⟩

set_option maxHeartbeats 1000000 in
/-- Some bytes, as many as are asked for. -/
theorem l1Bytes_any (cb : Nat) (v : Value) (zs : List Int) (n : Int) (w : World) (h : Cur w cb v zs) (hn : n ≤ 1000) :
    Calls Try.prog 73 #[.pointer (some ⟨cb, 0, none⟩), .int .i64 n] w fun e w' => ∃ v' ys, e = .returned v' ∧ Own w' w.heap.size v' ys ∧ byteList ys ∧ ys.length ≤ 1000 ∧ Cur w' cb v zs ∧ w.grownBy w' (some cb) := by
  have hbe : Below w.heap.size w (w.alloc (.cells #[] 5)) := (Below.refl _ _).alloc (Nat.le_refl _) _
  have ho0 : Own (w.alloc (.cells #[] 5)) w.heap.size (.slice (some ⟨w.heap.size, 0, none⟩) 0 0) [] := World.ownsRow_lit w #[] 0 (Nat.le_refl _) (by decide) rfl
  have hC0 := h.grow hbe
  have hg0 : w.grownBy (w.alloc (.cells #[] 5)) (some cb) := World.grownBy_alloc w _ _
  have hcb := h.lt
  have HV := Hid.mk fun hz => h.1.lt hz
  clear h
  have H0 := Hid.mk (And.intro ho0 (And.intro hC0 hg0))
  clear ho0 hC0 hg0 hbe
  go_enter Try.func73, Try.ntmps73
  go_wp2
  go_loopw [5, 6] (fun v' i wr => ∃ (k : Nat) (ys : List Int), k ≤ 1000 ∧ (k = 0 ∨ (k : Int) ≤ n) ∧ i = .int .i64 k ∧ ys.length = k ∧ byteList ys ∧ Own wr w.heap.size v' ys ∧ Cur wr cb v zs ∧ w.grownBy wr (some cb)) (fun _ i _ => (n - intOf i).toNat)
  case atStart => exact ⟨0, [], by omega, Or.inl rfl, rfl, rfl, by intro z hz; simp at hz, H0.out.1, H0.out.2.1, H0.out.2.2⟩
  case round =>
    obtain ⟨k, ys, hk, hkn, rfl, hys, hby, hown, hC, hg⟩ := hrel
    have HK := Hid.mk hkn
    have HY := Hid.mk hys
    clear hkn hys H0
    by_cases hlt : (k : Int) < n
    · go_wp2_with fail
      refine (l1Byte_any cb v zs wr hC).mono ?_
      rintro e w1 ⟨x, rfl, hx0, hx1, hC1, hg1⟩
      have hown1 := hown.other hg1 (fun j hj e => by have h1 := (hown.lt j hj).1; have h2 := Option.some.inj e; omega)
      have hg2 := grownBy_trans hg hg1
      have hsz := hg2.size
      have hb1 := Bs.one w1 x hx0 hx1
      have hbr : Below w.heap.size w1 (w1.alloc (.cells #[.int .u8 x] 5)) := (Below.refl _ _).alloc hsz _
      clear hown hC hg hg1
      have HC1 := Hid.mk hC1
      clear hC1
      go_wp2_with (at_builtin; refine wpList_append_bs rfl _ _ rfl w.heap.size _ _ ys [x] rfl (hown1.alloc _) rfl hb1 hbr (by simp; omega) (by have := HY.out; simp; omega) ?_)
      intro v2 w2 hown2 hbel2 hsz2
      have hC2 := HC1.out.below hbel2 hcb HV.out
      have hg3 := grownBy_below hg2 hbel2 (Nat.le_refl _)
      have hby2 : byteList (ys ++ [x]) := hby.append (by intro z hz; simp at hz; omega)
      clear hb1 hbr hown1 hbel2 hg2 HC1
      go_wp2
      go_roundw
      case rel => exact ⟨k + 1, ys ++ [x], by omega, Or.inr (by omega), by go_num, by have := HY.out; simp; omega, hby2, hown2, hC2, hg3⟩
      case measure => simp [intOf]; omega
    · go_wp2
      go_ret
      have hl := HY.out
      first | exact ⟨_, rfl, ys, hown, hby, by omega, hC, hg⟩ | exact ⟨_, ys, rfl, hown, hby, by omega, hC, hg⟩

theorem l1Some_any (cb : Nat) (v : Value) (zs : List Int) (w : World) (h : Cur w cb v zs) :
    Calls Try.prog 58 #[.pointer (some ⟨cb, 0, none⟩)] w fun e w' => ∃ v' ys, e = .returned v' ∧ Own w' w.heap.size v' ys ∧ byteList ys ∧ ys.length ≤ 1000 ∧ Cur w' cb v zs ∧ w.grownBy w' (some cb) := by
  have H := Hid.mk h
  clear h
  go_enter Try.func58, Try.ntmps58
  go_wp2_with fail
  refine (l1Int_any cb w.heap.size 5 v zs [0, 1, 2, 5, 9] _
    (H.out.grow ((Below.refl _ _).alloc (Nat.le_refl _) _)) rfl (by omega) (by omega) (heap_alloc_new w _) (by have := H.out.lt; omega)).mono ?_
  rintro e w1 ⟨x, rfl, hx, hC, hg⟩
  have hx9 : x ≤ 1000 := by simp at hx; omega
  have HC := Hid.mk hC
  have HG := Hid.mk (grownBy_trans (World.grownBy_alloc w _ _) hg)
  clear hC hg hx
  go_wp2_with fail
  refine (l1Bytes_any cb v zs x w1 HC.out hx9).mono ?_
  rintro e w2 ⟨v', ys, rfl, hown, hby, hl, hC, hg⟩
  have HC2 := Hid.mk hC
  have HG2 := Hid.mk (grownBy_trans HG.out hg)
  have hown2 := hown.mono HG.out.size
  clear hC hg HC HG hown
  go_wp2
  go_ret
  exact ⟨v', ys, rfl, hown2, hby, hl, HC2.out, HG2.out⟩

theorem drawWrap_any (v : Value) (zs : List Int) (w : World) (h : Bs w v zs) (hlen : zs.length ≤ 1048576) :
    Calls Try.prog 19 #[v] w fun e w' => ∃ x : Int, e = .returned (.int .i64 x) ∧ Below w.heap.size w w' := by
  have H := Hid.mk h
  clear h
  go_enter Try.func19, Try.ntmps19
  go_wp2_with fail
  refine (l1New_any v zs w H.out hlen).mono ?_
  rintro e w1 ⟨rfl, hC, hb⟩
  have HC := Hid.mk hC
  clear hC
  go_wp2_with fail
  refine (l1Num_any _ v zs w1 HC.out).mono ?_
  rintro e w2 ⟨x, rfl, -, hg⟩
  have hb2 := hb.grown hg hb.size (fun k hk => by simp at hk; omega)
  clear hg hb HC
  go_wp2
  go_ret
  exact ⟨x, rfl, hb2⟩

theorem drawPutU_any (v : Value) (zs : List Int) (w : World) (h : Bs w v zs) (hlen : zs.length ≤ 1048576) :
    Calls Try.prog 20 #[v] w fun e w' => ∃ v' ys x, e = .returned (.tuple #[v', .int .i64 x]) ∧ Own w' w.heap.size v' ys ∧ byteList ys ∧ ys.length ≤ 1000 ∧ Below w.heap.size w w' := by
  have H := Hid.mk h
  clear h
  go_enter Try.func20, Try.ntmps20
  go_wp2_with fail
  refine (l1New_any v zs w H.out hlen).mono ?_
  rintro e w1 ⟨rfl, hC, hb⟩
  have HC := Hid.mk hC
  have hlt := hC.lt
  clear hC
  go_wp2_with fail
  refine (l1Some_any _ v zs w1 HC.out).mono ?_
  rintro e w2 ⟨v', ys, rfl, hown, hby, hl, hC, hg⟩
  have HC2 := Hid.mk hC
  have hb2 := hb.grown hg hb.size (fun k hk => by simp at hk; omega)
  clear hC hg HC hb
  go_wp2_with fail
  refine (l1Num_any _ v zs w2 HC2.out).mono ?_
  rintro e w3 ⟨x, rfl, -, hg⟩
  have hb3 := hb2.grown hg hb2.size (fun k hk => by simp at hk; omega)
  have hown3 := (hown.other hg (fun k hk e => by have h1 := (hown.lt k hk).1; have h2 := Option.some.inj e; omega)).mono (Nat.le_of_lt hlt)
  clear hg hb2 hown HC2
  go_wp2
  go_ret2
  exact ⟨v', ys, x, rfl, hown3, hby, hl, hb3⟩
end Go.Proofs.Ytincoibidgkiaaa
