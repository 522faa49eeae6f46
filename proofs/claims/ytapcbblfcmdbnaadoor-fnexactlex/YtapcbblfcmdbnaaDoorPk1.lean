/- The library's error stays there. strings.Clone, by the kit's contract laid at this dump. The program's Lex, from label to label. What Lex answers: all tokens are right, no more than 2000; slices of tokens that lie below a bound. The law FnExactLex walked: at every text the program's Lex answers what the document's model of it answers; the answer owns its memory. -/
import Derived.Test.YtapcbblfcmdbnaaDoorLexPlain
import Derived.Shelf.Strconv.Clone
import Derived.Test.YtapcbblfcmdbnaaDoorBytes
import Derived.Test.YtapcbblfcmdbnaaDoorLexC
import Derived.Test.YtapcbblfcmdbnaaDoorGotoSix
import Derived.Test.YtapcbblfcmdbnaaDoorLexPass
namespace Go.Proofs.YtapcbblfcmdbnaaDoor
open Go.RowKit

theorem ErrR.grow {w w' : World} (h : ErrR w) (hb : Below w.heap.size w w') : ErrR w' := by
  obtain ⟨tp, p, hv⟩ := h
  refine ⟨tp, p, ?_⟩
  unfold World.var? at hv ⊢
  cases hg : (Program.globalNamed Tryd.prog "strconv.ErrRange") with
  | none => simp [hg] at hv
  | some g =>
    simp only [hg, Option.bind_some] at hv ⊢
    have hlt : g < w.heap.size := by
      rcases Nat.lt_or_ge g w.heap.size with h' | h'
      · exact h'
      · rw [Array.getElem?_eq_none h'] at hv; simp at hv
    rw [hb.block g hlt]
    exact hv
end Go.Proofs.YtapcbblfcmdbnaaDoor

namespace Go.Proofs.YtapcbblfcmdbnaaDoor
open Go.Shelf Go.RowKit

def ren316 : Go.Shelf.Ren := ⟨fun | 316 => 49 | n => n, fun | 0 => 0 | 3 => 3 | 4 => 4 | 5 => 5 | 9 => 9 | 37 => 22 | 127 => 78 | n => n, fun | n => n⟩
theorem lays316 : Go.Proofs.LaysM.n316 Tryd.prog ren316 := {
  mixed := by kernel_rfl
  f316 := Tryd.func49.trans (congrArg some (by kernel_rfl))
  t0 := Tryd.underlying0
  a0 := Tryd.isAgg0
  z0 := Tryd.sizeOf0
  v0 := Tryd.zeroValue0
  t3 := Tryd.underlying3
  a3 := Tryd.isAgg3
  z3 := Tryd.sizeOf3
  v3 := Tryd.zeroValue3
  t4 := Tryd.underlying4
  a4 := Tryd.isAgg4
  z4 := Tryd.sizeOf4
  v4 := Tryd.zeroValue4
  t9 := Tryd.underlying9
  a9 := Tryd.isAgg9
  z9 := Tryd.sizeOf9
  v9 := Tryd.zeroValue9
  t37 := Tryd.underlying22
  a37 := Tryd.isAgg22
  z37 := Tryd.sizeOf22
  v37 := Tryd.zeroValue22
  t127 := Tryd.underlying78
  a127 := Tryd.isAgg78
  z127 := Tryd.sizeOf78
  v127 := Tryd.zeroValue78
  t5 := Tryd.underlying5
  a5 := Tryd.isAgg5
  z5 := Tryd.sizeOf5
  v5 := Tryd.zeroValue5
  i0 := by kernel_rfl
  i3 := by kernel_rfl
  i4 := by kernel_rfl
  i5 := by kernel_rfl
  i9 := by kernel_rfl
  i37 := by kernel_rfl
  i127 := by kernel_rfl }
theorem cloneLite_any (s : ByteArray) (w : World) (hs : s.size ≤ 1048576) :
    Calls Tryd.prog 49 #[.string s] w fun e w' => e = .returned (.string s) ∧ Below w.heap.size w w' := Any.stringslite_Clone lays316 s w (by omega)
theorem clone_any (s : ByteArray) (w : World) (hs : s.size ≤ 1048576) :
    Calls Tryd.prog 28 #[.string s] w fun e w' => e = .returned (.string s) ∧ Below w.heap.size w w' := by
  go_enter Tryd.func28, Tryd.ntmps28
  go_wp2_with fail
  refine (cloneLite_any s w hs).mono ?_
  rintro e w1 ⟨rfl, hb⟩
  go_wp2
  go_ret
  exact ⟨rfl, hb⟩
end Go.Proofs.YtapcbblfcmdbnaaDoor

namespace Go.Proofs.YtapcbblfcmdbnaaDoor
open Go.RowKit
set_option maxRecDepth 20000

def lxc : Nat → Nat
  | 0 => 12
  | 5 => 13
  | _ => 14
/-- How much is left. -/
def lxM (s : ByteArray) (l : Nat) (a : Act) : Nat := 16 * (s.size - (intOf (a.tmps.getD 7 undef)).toNat) + lxc l
def lxN (s : ByteArray) (l q : Nat) : Nat := 16 * (s.size - q) + lxc l
theorem lxN_lt {s : ByteArray} {l l' q q' : Nat} (hq : q ≤ s.size) (h : (q < q' ∧ q' ≤ s.size) ∨ (q' = q ∧ lxc l' < lxc l)) : lxN s l' q' < lxN s l q := by
  have h14 : ∀ l, lxc l ≤ 14 ∧ 12 ≤ lxc l := fun l => by unfold lxc; split <;> omega
  have a := h14 l
  have b := h14 l'
  unfold lxN
  omega

theorem frame121 (a : Act) (v0 v4 v5 v6 v7 : Value) (hs : a.tmps.size = 121) (hd : a.defers = []) (h0 : a.tmps.getD 0 undef = v0) (h4 : a.tmps.getD 4 undef = v4) (h5 : a.tmps.getD 5 undef = v5) (h6 : a.tmps.getD 6 undef = v6) (h7 : a.tmps.getD 7 undef = v7) : ∃ U : Nat → Value, a = { tmps := #[v0, U 1, U 2, U 3, v4, v5, v6, v7, U 8, U 9, U 10, U 11, U 12, U 13, U 14, U 15, U 16, U 17, U 18, U 19, U 20, U 21, U 22, U 23, U 24, U 25, U 26, U 27, U 28, U 29, U 30, U 31, U 32, U 33, U 34, U 35, U 36, U 37, U 38, U 39, U 40, U 41, U 42, U 43, U 44, U 45, U 46, U 47, U 48, U 49, U 50, U 51, U 52, U 53, U 54, U 55, U 56, U 57, U 58, U 59, U 60, U 61, U 62, U 63, U 64, U 65, U 66, U 67, U 68, U 69, U 70, U 71, U 72, U 73, U 74, U 75, U 76, U 77, U 78, U 79, U 80, U 81, U 82, U 83, U 84, U 85, U 86, U 87, U 88, U 89, U 90, U 91, U 92, U 93, U 94, U 95, U 96, U 97, U 98, U 99, U 100, U 101, U 102, U 103, U 104, U 105, U 106, U 107, U 108, U 109, U 110, U 111, U 112, U 113, U 114, U 115, U 116, U 117, U 118, U 119, U 120], defers := [] } := by
  obtain ⟨t, d⟩ := a
  simp only at hs hd h0 h4 h5 h6 h7
  subst hd
  have key : t = ((List.range 121).map (fun i => t.getD i undef)).toArray := by
    apply Array.ext
    · simp [hs]
    · intro i h1 h2
      simp [Array.getD, h1]
  subst h0 h4 h5 h6 h7
  refine ⟨fun i => t.getD i undef, ?_⟩
  exact congrArg (fun x => Act.mk x []) (key.trans rfl)

/-- What holds at a jump to a label. -/
def LxJ (s : ByteArray) (w : World) : Nat → Act → World → Prop := fun l a W => l < 6 ∧ ∃ (p q : Nat) (L : List Tk) (k n : Int) (ts : ByteArray) (oa : Option Addr) (oc : Nat), a.tmps.size = 121 ∧ a.defers = [] ∧ a.tmps.getD 0 undef = .string s ∧ a.tmps.getD 4 undef = .slice oa L.length oc ∧ a.tmps.getD 5 undef = .pointer (some ⟨w.heap.size + 1, 0, none⟩) ∧ a.tmps.getD 6 undef = .int .i64 (p : Int) ∧ a.tmps.getD 7 undef = .int .i64 (q : Int) ∧ Hid (LxS s w W (w.heap.size + 1) L k n ts oa oc) ∧ (l = 0 → Hid (q ≤ s.size ∧ LxAt s q L)) ∧ (l = 1 → Hid (C1 s p q L k n ts)) ∧ (l = 2 → Hid (C2 s p q L k n ts)) ∧ (l = 3 → Hid (C3 s p q L k n ts)) ∧ (l = 4 → Hid (C4 s p q L k n ts)) ∧ (l = 5 → Hid (C5 s p q L k n ts))

theorem LxS.start (s : ByteArray) (w : World) (k : Int) : LxS s w ((w.alloc (.cells #[] 31)).alloc (.cells #[.int .i64 k, .int .i64 0, .string ⟨#[]⟩] 31)) (w.heap.size + 1) [] k 0 ⟨#[]⟩ (some ⟨w.heap.size, 0, none⟩) 0 := by
  have A0 : Below w.heap.size w (w.alloc (.cells #[] 31)) := (Below.refl _ _).alloc (Nat.le_refl _) _
  have O0 : OwnK (w.alloc (.cells #[] 31)) w.heap.size (.slice (some ⟨w.heap.size, 0, none⟩) 0 0) [] := World.ownsRow_lit w #[] 0 (Nat.le_refl _) (by decide) rfl
  have hz : (w.alloc (.cells #[] 31)).heap.size = w.heap.size + 1 := by simp
  refine ⟨A0.alloc A0.size _, O0.grow ((Below.refl _ _).alloc (Nat.le_refl _) _), by simp, by simp, Nat.zero_le _, ?_, ?_, Nat.le_refl _, Nat.le_succ _⟩
  · simp [Value.ownBlock]
  · have := heap_alloc_new (w.alloc (.cells #[] 31)) (.cells #[.int .i64 k, .int .i64 0, .string ⟨#[]⟩] 31)
    rw [hz] at this
    exact this

set_option maxHeartbeats 8000000 in
theorem implLex_any (s : ByteArray) (w : World) (hs : s.size ≤ 1048576) (ht : Tab w) (he : ErrR w) :
    Calls Tryd.prog 8 #[.string s] w fun e w' => ∃ u, e = .returned (.tuple #[u, .int .i64 (lexT s).2]) ∧ OwnK w' w.heap.size u (lexT s).1 ∧ Below w.heap.size w w' := by
  have hsm : s.size ≤ maxLen := by unfold maxLen; omega
  have HPO := Hid.mk (fun q hq W => passOver_any s q W hsm hq)
  have HPB := Hid.mk (pas_bd s)
  have HTB := Hid.mk (fun W (hb : Below w.heap.size w W) => ht.grow hb)
  have HER := Hid.mk (fun W (hb : Below w.heap.size w W) => he.grow hb)
  have HSM := Hid.mk hsm
  clear ht he hsm
  obtain ⟨RES, hRES⟩ : ∃ RES, lexT s = RES := ⟨_, rfl⟩
  have HRES := Hid.mk hRES
  rw [hRES]
  clear hRES
  go_enter Tryd.func8, Tryd.ntmps8
  go_wp2
  refine wp_scope_six (LxJ s w) (fun l a' _ => lxM s l a') (fun l a w h => h.1) rfl rfl rfl rfl rfl rfl ?_ ?_ ?_ ?_ ?_ ?_ ?_
  · have HS := Hid.mk (LxS.start s w 0)
    have HC : Hid (0 ≤ s.size ∧ LxAt s 0 []) := ⟨Nat.zero_le _, LxAt.start s⟩
    go_wp2
    go_step3
    have hq : 0 ≤ s.size := HC.out.1
    have HP := Hid.mk (HPO.out 0 hq)
    have hb := HPB.out 0 hq
    have HLX := Hid.mk (LxP.of HC.out.2)
    have HDN := Hid.mk (fun h => LxAt.done HC.out.2 h)
    obtain ⟨P, hP⟩ : ∃ P, pas s 0 = P := ⟨_, rfl⟩
    rw [hP] at HP hb HLX HDN
    clear hP HC
    by_cases hPe : P = s.size
    · have HR := Hid.mk (HRES.out.symm.trans (HDN.out hPe))
      have hee : ((P : Int) == (s.size : Int)) = true := by simp; omega
      clear HLX HDN
      go_wp2_with fail
      refine (HP.out _).mono ?_
      rintro e w' ⟨rfl, hw'⟩
      subst hw'
      go_wp2
      simp only [Jmp]
      refine bodyPost_ret (v := .tuple #[.slice (some ⟨w.heap.size, 0, none⟩) 0 0, .int .i64 (-1)]) (by simp [results, Tryd.results8, go_sem]) rfl ⟨_, by rw [HR.out], by rw [HR.out]; exact HS.out.own, HS.out.b⟩
    · have hPl : P < s.size := by omega
      have hee : ((P : Int) == (s.size : Int)) = false := by simp; omega
      have hLX : LxP s P [] := HLX.out hPl
      have hbt := byte_txt s P hPl
      have hPi : (P : Int) < (s.size : Int) := by omega
      have HKD := Hid.mk (fun W' (h : Tl W' [] (.slice (some ⟨w.heap.size, 0, none⟩) 0 0)) => kindOfNext_any (bt s P) [] _ W' h HS.out.ok)
      have HKC := Hid.mk (kd_cases (bt s P) (tiL []))
      have S1 := Hid.mk (fun hd => C1.start hLX hd)
      have S2 := Hid.mk (fun hd he => C2.start hLX hd he)
      have S3 := Hid.mk (fun hd => C3.start hLX hd)
      have S4 := Hid.mk (fun k hd he => C4.start (k := k) hLX hd he)
      obtain ⟨c, hcc⟩ : ∃ c, bt s P = c := ⟨_, rfl⟩
      have hbt' : ((s[P].toNat : Nat) : Int) = c := hbt.trans hcc
      rw [hcc] at HKD HKC S1 S2 S4
      obtain ⟨kk, hkk⟩ : ∃ kk, kdT c (tiL []) = kk := ⟨_, rfl⟩
      rw [hkk] at HKD HKC
      have HKK := Hid.mk hkk
      have HCC := Hid.mk hcc
      clear HDN HLX hbt hcc hkk hLX
      rcases HKC.out with ⟨hk, hd⟩ | ⟨hk, hd, hsm⟩ | hk | hk34
      · subst hk
        have HN := Hid.mk (S1.out hd)
        clear S1 S2 S3 S4 HKC hd
        go_wp2_with fail
        refine (HP.out _).mono ?_
        rintro e w' ⟨rfl, hw'⟩
        subst hw'
        go_wp2_with fail
        refine (HKD.out _ (HS.out.tl HSM.out)).mono ?_
        rintro e w' ⟨rfl, hw'⟩
        subst hw'
        have c0 := HS.out.bx.c0
        have c1 := HS.out.bx.c1
        have c2 := HS.out.bx.c2
        have f0 := HS.out.bx.fr 0
        have f1 := HS.out.bx.fr 1
        have f2 := HS.out.bx.fr 2
        have HS3 := Hid.mk (LxS.start s w)
        clear HP HKD HS
        go_wp2
        go_step3
        rw [show (P : Int) + 1 = ((P + 1 : Nat) : Int) by omega]
        unfold LxJ
        exact ⟨by omega, P, P + 1, [], 1, 0, ⟨#[]⟩, (some ⟨w.heap.size, 0, none⟩), 0, rfl, rfl, rfl, rfl, rfl, rfl, rfl, Hid.mk (HS3.out _), fun h => by omega, fun _ => HN, fun h => by omega, fun h => by omega, fun h => by omega, fun h => by omega⟩
      · subst hk
        have HN := Hid.mk (S2.out hd hsm)
        clear S1 S2 S3 S4 HKC hd hsm
        go_wp2_with fail
        refine (HP.out _).mono ?_
        rintro e w' ⟨rfl, hw'⟩
        subst hw'
        go_wp2_with fail
        refine (HKD.out _ (HS.out.tl HSM.out)).mono ?_
        rintro e w' ⟨rfl, hw'⟩
        subst hw'
        have c0 := HS.out.bx.c0
        have c1 := HS.out.bx.c1
        have c2 := HS.out.bx.c2
        have f0 := HS.out.bx.fr 0
        have f1 := HS.out.bx.fr 1
        have f2 := HS.out.bx.fr 2
        have HS3 := Hid.mk (LxS.start s w)
        clear HP HKD HS
        go_wp2
        go_step3
        rw [show (P : Int) + 1 = ((P + 1 : Nat) : Int) by omega]
        unfold LxJ
        exact ⟨by omega, P, P + 1, [], 2, 0, ⟨#[]⟩, (some ⟨w.heap.size, 0, none⟩), 0, rfl, rfl, rfl, rfl, rfl, rfl, rfl, Hid.mk (HS3.out _), fun h => by omega, fun h => by omega, fun _ => HN, fun h => by omega, fun h => by omega, fun h => by omega⟩
      · subst hk
        have HN := Hid.mk (S3.out (by rw [HCC.out]; exact HKK.out))
        clear S1 S2 S3 S4 HKC
        go_wp2_with fail
        refine (HP.out _).mono ?_
        rintro e w' ⟨rfl, hw'⟩
        subst hw'
        go_wp2_with fail
        refine (HKD.out _ (HS.out.tl HSM.out)).mono ?_
        rintro e w' ⟨rfl, hw'⟩
        subst hw'
        have c0 := HS.out.bx.c0
        have c1 := HS.out.bx.c1
        have c2 := HS.out.bx.c2
        have f0 := HS.out.bx.fr 0
        have f1 := HS.out.bx.fr 1
        have f2 := HS.out.bx.fr 2
        have HS3 := Hid.mk (LxS.start s w)
        clear HP HKD HS
        go_wp2
        go_step3
        rw [show (P : Int) + 1 = ((P + 1 : Nat) : Int) by omega]
        unfold LxJ
        exact ⟨by omega, P, P + 1, [], 5, 0, ⟨#[]⟩, (some ⟨w.heap.size, 0, none⟩), 0, rfl, rfl, rfl, rfl, rfl, rfl, rfl, Hid.mk (HS3.out _), fun h => by omega, fun h => by omega, fun h => by omega, fun _ => HN, fun h => by omega, fun h => by omega⟩
      · rcases hk34 with hk | hk
        · subst hk
          have HN := Hid.mk (S4.out 3 HKK.out (.inl rfl))
          clear S1 S2 S3 S4 HKC
          go_wp2_with fail
          refine (HP.out _).mono ?_
          rintro e w' ⟨rfl, hw'⟩
          subst hw'
          go_wp2_with fail
          refine (HKD.out _ (HS.out.tl HSM.out)).mono ?_
          rintro e w' ⟨rfl, hw'⟩
          subst hw'
          have c0 := HS.out.bx.c0
          have c1 := HS.out.bx.c1
          have c2 := HS.out.bx.c2
          have f0 := HS.out.bx.fr 0
          have f1 := HS.out.bx.fr 1
          have f2 := HS.out.bx.fr 2
          have HS3 := Hid.mk (LxS.start s w)
          clear HP HKD HS
          go_wp2
          go_step3
          rw [show (P : Int) + 1 = ((P + 1 : Nat) : Int) by omega]
          unfold LxJ
          exact ⟨by omega, P, P + 1, [], 3, 0, ⟨#[]⟩, (some ⟨w.heap.size, 0, none⟩), 0, rfl, rfl, rfl, rfl, rfl, rfl, rfl, Hid.mk (HS3.out _), fun h => by omega, fun h => by omega, fun h => by omega, fun h => by omega, fun _ => HN, fun h => by omega⟩
        · subst hk
          have HN := Hid.mk (S4.out 4 HKK.out (.inr rfl))
          clear S1 S2 S3 S4 HKC
          go_wp2_with fail
          refine (HP.out _).mono ?_
          rintro e w' ⟨rfl, hw'⟩
          subst hw'
          go_wp2_with fail
          refine (HKD.out _ (HS.out.tl HSM.out)).mono ?_
          rintro e w' ⟨rfl, hw'⟩
          subst hw'
          have c0 := HS.out.bx.c0
          have c1 := HS.out.bx.c1
          have c2 := HS.out.bx.c2
          have f0 := HS.out.bx.fr 0
          have f1 := HS.out.bx.fr 1
          have f2 := HS.out.bx.fr 2
          have HS3 := Hid.mk (LxS.start s w)
          clear HP HKD HS
          go_wp2
          go_step3
          rw [show (P : Int) + 1 = ((P + 1 : Nat) : Int) by omega]
          unfold LxJ
          exact ⟨by omega, P, P + 1, [], 4, 0, ⟨#[]⟩, (some ⟨w.heap.size, 0, none⟩), 0, rfl, rfl, rfl, rfl, rfl, rfl, rfl, Hid.mk (HS3.out _), fun h => by omega, fun h => by omega, fun h => by omega, fun h => by omega, fun _ => HN, fun h => by omega⟩
  · intro a' W hJ
    unfold LxJ at hJ
    obtain ⟨-, p, q, L, k, n, ts, oa, oc, g1, g2, g3, g4, g5, g6, g7, HS, h0, -, -, -, -, -⟩ := hJ
    have HC := h0 rfl
    obtain ⟨U, rfl⟩ := frame121 a' _ _ _ _ _ g1 g2 g3 g4 g5 g6 g7
    clear h0 g1 g2 g3 g4 g5 g6 g7
    have hq : q ≤ s.size := HC.out.1
    have HP := Hid.mk (HPO.out q hq)
    have hb := HPB.out q hq
    have HLX := Hid.mk (LxP.of HC.out.2)
    have HDN := Hid.mk (fun h => LxAt.done HC.out.2 h)
    obtain ⟨P, hP⟩ : ∃ P, pas s q = P := ⟨_, rfl⟩
    rw [hP] at HP hb HLX HDN
    clear hP HC
    by_cases hPe : P = s.size
    · have HR := Hid.mk (HRES.out.symm.trans (HDN.out hPe))
      have hee : ((P : Int) == (s.size : Int)) = true := by simp; omega
      clear HLX HDN
      go_wp2_with fail
      refine (HP.out _).mono ?_
      rintro e w' ⟨rfl, hw'⟩
      subst hw'
      go_wp2
      simp only [Jmp]
      refine bodyPost_ret (v := .tuple #[.slice oa L.length oc, .int .i64 (-1)]) (by simp [results, Tryd.results8, go_sem]) rfl ⟨_, by rw [HR.out], by rw [HR.out]; exact HS.out.own, HS.out.b⟩
    · have hPl : P < s.size := by omega
      have hee : ((P : Int) == (s.size : Int)) = false := by simp; omega
      have hLX : LxP s P L := HLX.out hPl
      have hbt := byte_txt s P hPl
      have hPi : (P : Int) < (s.size : Int) := by omega
      have HKD := Hid.mk (fun W' (h : Tl W' L (.slice oa L.length oc)) => kindOfNext_any (bt s P) L _ W' h HS.out.ok)
      have HKC := Hid.mk (kd_cases (bt s P) (tiL L))
      have S1 := Hid.mk (fun hd => C1.start hLX hd)
      have S2 := Hid.mk (fun hd he => C2.start hLX hd he)
      have S3 := Hid.mk (fun hd => C3.start hLX hd)
      have S4 := Hid.mk (fun k hd he => C4.start (k := k) hLX hd he)
      obtain ⟨c, hcc⟩ : ∃ c, bt s P = c := ⟨_, rfl⟩
      have hbt' : ((s[P].toNat : Nat) : Int) = c := hbt.trans hcc
      rw [hcc] at HKD HKC S1 S2 S4
      obtain ⟨kk, hkk⟩ : ∃ kk, kdT c (tiL L) = kk := ⟨_, rfl⟩
      rw [hkk] at HKD HKC
      have HKK := Hid.mk hkk
      have HCC := Hid.mk hcc
      clear HDN HLX hbt hcc hkk hLX
      rcases HKC.out with ⟨hk, hd⟩ | ⟨hk, hd, hsm⟩ | hk | hk34
      · subst hk
        have HN := Hid.mk (S1.out hd)
        clear S1 S2 S3 S4 HKC hd
        go_wp2_with fail
        refine (HP.out _).mono ?_
        rintro e w' ⟨rfl, hw'⟩
        subst hw'
        go_wp2_with fail
        refine (HKD.out _ (HS.out.tl HSM.out)).mono ?_
        rintro e w' ⟨rfl, hw'⟩
        subst hw'
        have c0 := HS.out.bx.c0
        have c1 := HS.out.bx.c1
        have c2 := HS.out.bx.c2
        have f0 := HS.out.bx.fr 0
        have f1 := HS.out.bx.fr 1
        have f2 := HS.out.bx.fr 2
        have HS3 := Hid.mk (fun x => HS.out.s3 x 0 ⟨#[]⟩)
        clear HP HKD HS
        go_wp2
        go_step3
        rw [show (P : Int) + 1 = ((P + 1 : Nat) : Int) by omega]
        refine ⟨by unfold LxJ; exact ⟨by omega, P, P + 1, L, 1, 0, ⟨#[]⟩, oa, oc, rfl, rfl, rfl, rfl, rfl, rfl, rfl, Hid.mk (HS3.out _), fun h => by omega, fun _ => HN, fun h => by omega, fun h => by omega, fun h => by omega, fun h => by omega⟩, ?_⟩
        show lxN s 1 (P + 1) < lxN s 0 q
        exact lxN_lt hq (by first | exact .inl ⟨by omega, by omega⟩ | exact .inr ⟨rfl, by decide⟩)
      · subst hk
        have HN := Hid.mk (S2.out hd hsm)
        clear S1 S2 S3 S4 HKC hd hsm
        go_wp2_with fail
        refine (HP.out _).mono ?_
        rintro e w' ⟨rfl, hw'⟩
        subst hw'
        go_wp2_with fail
        refine (HKD.out _ (HS.out.tl HSM.out)).mono ?_
        rintro e w' ⟨rfl, hw'⟩
        subst hw'
        have c0 := HS.out.bx.c0
        have c1 := HS.out.bx.c1
        have c2 := HS.out.bx.c2
        have f0 := HS.out.bx.fr 0
        have f1 := HS.out.bx.fr 1
        have f2 := HS.out.bx.fr 2
        have HS3 := Hid.mk (fun x => HS.out.s3 x 0 ⟨#[]⟩)
        clear HP HKD HS
        go_wp2
        go_step3
        rw [show (P : Int) + 1 = ((P + 1 : Nat) : Int) by omega]
        refine ⟨by unfold LxJ; exact ⟨by omega, P, P + 1, L, 2, 0, ⟨#[]⟩, oa, oc, rfl, rfl, rfl, rfl, rfl, rfl, rfl, Hid.mk (HS3.out _), fun h => by omega, fun h => by omega, fun _ => HN, fun h => by omega, fun h => by omega, fun h => by omega⟩, ?_⟩
        show lxN s 2 (P + 1) < lxN s 0 q
        exact lxN_lt hq (by first | exact .inl ⟨by omega, by omega⟩ | exact .inr ⟨rfl, by decide⟩)
      · subst hk
        have HN := Hid.mk (S3.out (by rw [HCC.out]; exact HKK.out))
        clear S1 S2 S3 S4 HKC
        go_wp2_with fail
        refine (HP.out _).mono ?_
        rintro e w' ⟨rfl, hw'⟩
        subst hw'
        go_wp2_with fail
        refine (HKD.out _ (HS.out.tl HSM.out)).mono ?_
        rintro e w' ⟨rfl, hw'⟩
        subst hw'
        have c0 := HS.out.bx.c0
        have c1 := HS.out.bx.c1
        have c2 := HS.out.bx.c2
        have f0 := HS.out.bx.fr 0
        have f1 := HS.out.bx.fr 1
        have f2 := HS.out.bx.fr 2
        have HS3 := Hid.mk (fun x => HS.out.s3 x 0 ⟨#[]⟩)
        clear HP HKD HS
        go_wp2
        go_step3
        rw [show (P : Int) + 1 = ((P + 1 : Nat) : Int) by omega]
        refine ⟨by unfold LxJ; exact ⟨by omega, P, P + 1, L, 5, 0, ⟨#[]⟩, oa, oc, rfl, rfl, rfl, rfl, rfl, rfl, rfl, Hid.mk (HS3.out _), fun h => by omega, fun h => by omega, fun h => by omega, fun _ => HN, fun h => by omega, fun h => by omega⟩, ?_⟩
        show lxN s 3 (P + 1) < lxN s 0 q
        exact lxN_lt hq (by first | exact .inl ⟨by omega, by omega⟩ | exact .inr ⟨rfl, by decide⟩)
      · rcases hk34 with hk | hk
        · subst hk
          have HN := Hid.mk (S4.out 3 HKK.out (.inl rfl))
          clear S1 S2 S3 S4 HKC
          go_wp2_with fail
          refine (HP.out _).mono ?_
          rintro e w' ⟨rfl, hw'⟩
          subst hw'
          go_wp2_with fail
          refine (HKD.out _ (HS.out.tl HSM.out)).mono ?_
          rintro e w' ⟨rfl, hw'⟩
          subst hw'
          have c0 := HS.out.bx.c0
          have c1 := HS.out.bx.c1
          have c2 := HS.out.bx.c2
          have f0 := HS.out.bx.fr 0
          have f1 := HS.out.bx.fr 1
          have f2 := HS.out.bx.fr 2
          have HS3 := Hid.mk (fun x => HS.out.s3 x 0 ⟨#[]⟩)
          clear HP HKD HS
          go_wp2
          go_step3
          rw [show (P : Int) + 1 = ((P + 1 : Nat) : Int) by omega]
          refine ⟨by unfold LxJ; exact ⟨by omega, P, P + 1, L, 3, 0, ⟨#[]⟩, oa, oc, rfl, rfl, rfl, rfl, rfl, rfl, rfl, Hid.mk (HS3.out _), fun h => by omega, fun h => by omega, fun h => by omega, fun h => by omega, fun _ => HN, fun h => by omega⟩, ?_⟩
          show lxN s 4 (P + 1) < lxN s 0 q
          exact lxN_lt hq (by first | exact .inl ⟨by omega, by omega⟩ | exact .inr ⟨rfl, by decide⟩)
        · subst hk
          have HN := Hid.mk (S4.out 4 HKK.out (.inr rfl))
          clear S1 S2 S3 S4 HKC
          go_wp2_with fail
          refine (HP.out _).mono ?_
          rintro e w' ⟨rfl, hw'⟩
          subst hw'
          go_wp2_with fail
          refine (HKD.out _ (HS.out.tl HSM.out)).mono ?_
          rintro e w' ⟨rfl, hw'⟩
          subst hw'
          have c0 := HS.out.bx.c0
          have c1 := HS.out.bx.c1
          have c2 := HS.out.bx.c2
          have f0 := HS.out.bx.fr 0
          have f1 := HS.out.bx.fr 1
          have f2 := HS.out.bx.fr 2
          have HS3 := Hid.mk (fun x => HS.out.s3 x 0 ⟨#[]⟩)
          clear HP HKD HS
          go_wp2
          go_step3
          rw [show (P : Int) + 1 = ((P + 1 : Nat) : Int) by omega]
          refine ⟨by unfold LxJ; exact ⟨by omega, P, P + 1, L, 4, 0, ⟨#[]⟩, oa, oc, rfl, rfl, rfl, rfl, rfl, rfl, rfl, Hid.mk (HS3.out _), fun h => by omega, fun h => by omega, fun h => by omega, fun h => by omega, fun _ => HN, fun h => by omega⟩, ?_⟩
          show lxN s 4 (P + 1) < lxN s 0 q
          exact lxN_lt hq (by first | exact .inl ⟨by omega, by omega⟩ | exact .inr ⟨rfl, by decide⟩)
  · intro a' W hJ
    unfold LxJ at hJ
    obtain ⟨-, p, q, L, k, n, ts, oa, oc, g1, g2, g3, g4, g5, g6, g7, HS, -, h1, -, -, -, -⟩ := hJ
    have HC := h1 rfl
    obtain ⟨U, rfl⟩ := frame121 a' _ _ _ _ _ g1 g2 g3 g4 g5 g6 g7
    clear h1 g1 g2 g3 g4 g5 g6 g7
    have hq : q ≤ s.size := HC.out.2.2.2.2.1
    have hp : p < q := HC.out.2.2.2.1
    have HNX := Hid.mk (fun h h' => C1.next HC.out h h')
    have HFN := Hid.mk (fun h => C1.fin HC.out h)
    by_cases hlt : q < s.size
    · have hbt := byte_txt s q hlt
      have hqi : (q : Int) < (s.size : Int) := by omega
      have HCL := Hid.mk (isDigit_any (bt s q))
      obtain ⟨c, hcc⟩ : ∃ c, bt s q = c := ⟨_, rfl⟩
      have hbt' : ((s[q].toNat : Nat) : Int) = c := hbt.trans hcc
      rw [hcc] at HCL HNX HFN
      clear hbt hcc
      cases hd : dgB c with
      | true =>
        have HN := Hid.mk (HNX.out hlt hd)
        rw [hd] at HCL
        clear HNX HFN hd HC
        go_wp2_with fail
        refine (HCL.out _).mono ?_
        rintro e w' ⟨rfl, hw'⟩
        subst hw'
        go_wp2
        go_step3
        rw [show (q : Int) + 1 = ((q + 1 : Nat) : Int) by omega]
        refine ⟨by unfold LxJ; exact ⟨by omega, p, q + 1, L, k, n, ts, oa, oc, rfl, rfl, rfl, rfl, rfl, rfl, rfl, HS, fun h => by omega, fun _ => HN, fun h => by omega, fun h => by omega, fun h => by omega, fun h => by omega⟩, ?_⟩
        show lxN s 1 (q + 1) < lxN s 1 q
        exact lxN_lt hq (by first | exact .inl ⟨by omega, by omega⟩ | exact .inr ⟨rfl, by decide⟩)
      | false =>
        have hfin := HFN.out (fun _ => hd)
        rw [hd] at HCL
        clear HNX HFN hd HC
        obtain ⟨hz, hu, h5⟩ := hfin
        have HN := Hid.mk h5
        have HPN := Hid.mk (fun W' ht he => plainNumber_any (s.extract p q) W' hz (by rw [ByteArray.size_extract]; omega) hu ht he)
        have hsl : ∀ w, (Instr.slice 9 (.string s) (some (.int .i64 (p : Int))) (some (.int .i64 (q : Int))) none).run Tryd.prog w = .ok (.string (s.extract p q)) w := fun w => by
          have := run_slice_string (P := Tryd.prog) w 9 s .i64 .i64 (p : Int) (q : Int) Tryd.underlying9 (by omega) (by omega) (by omega)
          rw [this]; rfl
        generalize s.extract p q = d at *
        generalize pnT d = pn at *
        clear hz hu h5
        go_wp2_with fail
        refine (HCL.out _).mono ?_
        rintro e w' ⟨rfl, hw'⟩
        subst hw'
        clear HCL
        go_wp2_with fail
        refine (HPN.out _ (HTB.out _ HS.out.b) (HER.out _ HS.out.b)).mono ?_
        rintro e w2 ⟨rfl, hb2⟩
        have HS2 := Hid.mk (HS.out.grow hb2)
        clear HPN hb2 HS
        have c0 := HS2.out.bx.c0
        have c1 := HS2.out.bx.c1
        have c2 := HS2.out.bx.c2
        have f0 := HS2.out.bx.fr 0
        have f1 := HS2.out.bx.fr 1
        have f2 := HS2.out.bx.fr 2
        have HS3 := Hid.mk (HS2.out.s1 pn)
        clear HS2
        go_wp2
        go_step3
        refine ⟨by unfold LxJ; exact ⟨by omega, p, q, L, k, pn, ts, oa, oc, rfl, rfl, rfl, rfl, rfl, rfl, rfl, HS3, fun h => by omega, fun h => by omega, fun h => by omega, fun h => by omega, fun h => by omega, fun _ => HN⟩, ?_⟩
        show lxN s 5 (q) < lxN s 1 q
        exact lxN_lt hq (by first | exact .inl ⟨by omega, by omega⟩ | exact .inr ⟨rfl, by decide⟩)
    · have hqi : ¬ (q : Int) < (s.size : Int) := by omega
      have hfin := HFN.out (fun h => absurd h hlt)
      clear HNX HFN HC
      obtain ⟨hz, hu, h5⟩ := hfin
      have HN := Hid.mk h5
      have HPN := Hid.mk (fun W' ht he => plainNumber_any (s.extract p q) W' hz (by rw [ByteArray.size_extract]; omega) hu ht he)
      have hsl : ∀ w, (Instr.slice 9 (.string s) (some (.int .i64 (p : Int))) (some (.int .i64 (q : Int))) none).run Tryd.prog w = .ok (.string (s.extract p q)) w := fun w => by
        have := run_slice_string (P := Tryd.prog) w 9 s .i64 .i64 (p : Int) (q : Int) Tryd.underlying9 (by omega) (by omega) (by omega)
        rw [this]; rfl
      generalize s.extract p q = d at *
      generalize pnT d = pn at *
      clear hz hu h5
      go_wp2_with fail
      refine (HPN.out _ (HTB.out _ HS.out.b) (HER.out _ HS.out.b)).mono ?_
      rintro e w2 ⟨rfl, hb2⟩
      have HS2 := Hid.mk (HS.out.grow hb2)
      clear HPN hb2 HS
      have c0 := HS2.out.bx.c0
      have c1 := HS2.out.bx.c1
      have c2 := HS2.out.bx.c2
      have f0 := HS2.out.bx.fr 0
      have f1 := HS2.out.bx.fr 1
      have f2 := HS2.out.bx.fr 2
      have HS3 := Hid.mk (HS2.out.s1 pn)
      clear HS2
      go_wp2
      go_step3
      refine ⟨by unfold LxJ; exact ⟨by omega, p, q, L, k, pn, ts, oa, oc, rfl, rfl, rfl, rfl, rfl, rfl, rfl, HS3, fun h => by omega, fun h => by omega, fun h => by omega, fun h => by omega, fun h => by omega, fun _ => HN⟩, ?_⟩
      show lxN s 5 (q) < lxN s 1 q
      exact lxN_lt hq (by first | exact .inl ⟨by omega, by omega⟩ | exact .inr ⟨rfl, by decide⟩)
  · intro a' W hJ
    unfold LxJ at hJ
    obtain ⟨-, p, q, L, k, n, ts, oa, oc, g1, g2, g3, g4, g5, g6, g7, HS, -, -, h2, -, -, -⟩ := hJ
    have HC := h2 rfl
    obtain ⟨U, rfl⟩ := frame121 a' _ _ _ _ _ g1 g2 g3 g4 g5 g6 g7
    clear h2 g1 g2 g3 g4 g5 g6 g7
    have hq : q ≤ s.size := HC.out.2.2.2.2.1
    have hp : p < q := HC.out.2.2.2.1
    have HNX := Hid.mk (fun h h' => C2.next HC.out h h')
    have HFN := Hid.mk (fun h => C2.fin HC.out h)
    by_cases hlt : q < s.size
    · have hbt := byte_txt s q hlt
      have hqi : (q : Int) < (s.size : Int) := by omega
      have HCL := Hid.mk (isNameByte_any (bt s q))
      obtain ⟨c, hcc⟩ : ∃ c, bt s q = c := ⟨_, rfl⟩
      have hbt' : ((s[q].toNat : Nat) : Int) = c := hbt.trans hcc
      rw [hcc] at HCL HNX HFN
      clear hbt hcc
      cases hd : nbB c with
      | true =>
        have HN := Hid.mk (HNX.out hlt hd)
        rw [hd] at HCL
        clear HNX HFN hd HC
        go_wp2_with fail
        refine (HCL.out _).mono ?_
        rintro e w' ⟨rfl, hw'⟩
        subst hw'
        go_wp2
        go_step3
        rw [show (q : Int) + 1 = ((q + 1 : Nat) : Int) by omega]
        refine ⟨by unfold LxJ; exact ⟨by omega, p, q + 1, L, k, n, ts, oa, oc, rfl, rfl, rfl, rfl, rfl, rfl, rfl, HS, fun h => by omega, fun h => by omega, fun _ => HN, fun h => by omega, fun h => by omega, fun h => by omega⟩, ?_⟩
        show lxN s 2 (q + 1) < lxN s 2 q
        exact lxN_lt hq (by first | exact .inl ⟨by omega, by omega⟩ | exact .inr ⟨rfl, by decide⟩)
      | false =>
        have hfin := HFN.out (fun _ => hd)
        rw [hd] at HCL
        clear HNX HFN hd HC
        have HN := Hid.mk hfin
        have hsl : ∀ w, (Instr.slice 9 (.string s) (some (.int .i64 (p : Int))) (some (.int .i64 (q : Int))) none).run Tryd.prog w = .ok (.string (s.extract p q)) w := fun w => by
          have := run_slice_string (P := Tryd.prog) w 9 s .i64 .i64 (p : Int) (q : Int) Tryd.underlying9 (by omega) (by omega) (by omega)
          rw [this]; rfl
        generalize s.extract p q = d at *
        clear hfin
        have c0 := HS.out.bx.c0
        have c1 := HS.out.bx.c1
        have c2 := HS.out.bx.c2
        have f0 := HS.out.bx.fr 0
        have f1 := HS.out.bx.fr 1
        have f2 := HS.out.bx.fr 2
        have HS3 := Hid.mk (HS.out.s2 d)
        clear HS
        go_wp2_with fail
        refine (HCL.out _).mono ?_
        rintro e w' ⟨rfl, hw'⟩
        subst hw'
        clear HCL
        go_wp2
        go_step3
        refine ⟨by unfold LxJ; exact ⟨by omega, p, q, L, k, n, d, oa, oc, rfl, rfl, rfl, rfl, rfl, rfl, rfl, HS3, fun h => by omega, fun h => by omega, fun h => by omega, fun h => by omega, fun h => by omega, fun _ => HN⟩, ?_⟩
        show lxN s 5 (q) < lxN s 2 q
        exact lxN_lt hq (by first | exact .inl ⟨by omega, by omega⟩ | exact .inr ⟨rfl, by decide⟩)
    · have hqi : ¬ (q : Int) < (s.size : Int) := by omega
      have hfin := HFN.out (fun h => absurd h hlt)
      clear HNX HFN HC
      have HN := Hid.mk hfin
      have hsl : ∀ w, (Instr.slice 9 (.string s) (some (.int .i64 (p : Int))) (some (.int .i64 (q : Int))) none).run Tryd.prog w = .ok (.string (s.extract p q)) w := fun w => by
        have := run_slice_string (P := Tryd.prog) w 9 s .i64 .i64 (p : Int) (q : Int) Tryd.underlying9 (by omega) (by omega) (by omega)
        rw [this]; rfl
      generalize s.extract p q = d at *
      clear hfin
      have c0 := HS.out.bx.c0
      have c1 := HS.out.bx.c1
      have c2 := HS.out.bx.c2
      have f0 := HS.out.bx.fr 0
      have f1 := HS.out.bx.fr 1
      have f2 := HS.out.bx.fr 2
      have HS3 := Hid.mk (HS.out.s2 d)
      clear HS
      go_wp2
      go_step3
      refine ⟨by unfold LxJ; exact ⟨by omega, p, q, L, k, n, d, oa, oc, rfl, rfl, rfl, rfl, rfl, rfl, rfl, HS3, fun h => by omega, fun h => by omega, fun h => by omega, fun h => by omega, fun h => by omega, fun _ => HN⟩, ?_⟩
      show lxN s 5 (q) < lxN s 2 q
      exact lxN_lt hq (by first | exact .inl ⟨by omega, by omega⟩ | exact .inr ⟨rfl, by decide⟩)
  · intro a' W hJ
    unfold LxJ at hJ
    obtain ⟨-, p, q, L, k, n, ts, oa, oc, g1, g2, g3, g4, g5, g6, g7, HS, -, -, -, h3, -, -⟩ := hJ
    have HC := h3 rfl
    obtain ⟨U, rfl⟩ := frame121 a' _ _ _ _ _ g1 g2 g3 g4 g5 g6 g7
    clear h3 g1 g2 g3 g4 g5 g6 g7
    obtain ⟨hz0, hz1, hz2, h5⟩ := C3.fin HC.out
    have hq1 : q = p + 1 := HC.out.2.2.2
    have hq : q ≤ s.size := by omega
    have HN := Hid.mk h5
    have HMS : Hid (∀ W, Calls Tryd.prog 27 #[.string (s.extract p s.size)] W fun e w' => e = .returned (.int .i64 ((mkZ s p : Nat) : Int)) ∧ w' = W) := fun W => (markSize_any (s.extract p s.size) W (by have := HSM.out; rw [ByteArray.size_extract]; unfold maxLen at *; omega)).mono (by
      rintro e w' ⟨rfl, hw⟩
      refine ⟨?_, hw⟩
      unfold mkZ
      split <;> rfl)
    have hsl0 : ∀ w, (Instr.slice 9 (.string s) (some (.int .i64 (p : Int))) none none).run Tryd.prog w = .ok (.string (s.extract p s.size)) w := fun w => by
      have := run_slice_string_l (P := Tryd.prog) w 9 s Tryd.underlying9 .i64 (p : Int) (by omega) (by omega)
      rw [this]; rfl
    generalize mkZ s p = z at *
    have hsl : ∀ w, (Instr.slice 9 (.string s) (some (.int .i64 (p : Int))) (some (.int .i64 ((p : Int) + (z : Int)))) none).run Tryd.prog w = .ok (.string (s.extract p (p + z))) w := fun w => by
      have := run_slice_string (P := Tryd.prog) w 9 s .i64 .i64 (p : Int) ((p : Int) + (z : Int)) Tryd.underlying9 (by omega) (by omega) (by omega)
      rw [this]
      congr 2
    generalize s.extract p (p + z) = d at *
    generalize s.extract p s.size = d0 at *
    have HS3 := Hid.mk (HS.out.s2 d)
    have c0 := HS.out.bx.c0
    have c1 := HS.out.bx.c1
    have c2 := HS.out.bx.c2
    have f0 := HS.out.bx.fr 0
    have f1 := HS.out.bx.fr 1
    have f2 := HS.out.bx.fr 2
    clear HC h5 HS
    go_wp2_with fail
    refine (HMS.out _).mono ?_
    rintro e w' ⟨rfl, hw'⟩
    subst hw'
    clear HMS
    go_wp2
    go_step3
    rw [show (p : Int) + (z : Int) = ((p + z : Nat) : Int) by omega]
    subst hq1
    refine ⟨by unfold LxJ; exact ⟨by omega, p, p + z, L, k, n, d, oa, oc, rfl, rfl, rfl, rfl, rfl, rfl, rfl, HS3, fun h => by omega, fun h => by omega, fun h => by omega, fun h => by omega, fun h => by omega, fun _ => HN⟩, ?_⟩
    show lxN s 5 (p + z) < lxN s 3 (p + 1)
    exact lxN_lt hq (by rcases Nat.lt_or_ge 1 z with h | h; exact .inl ⟨by omega, by omega⟩; exact .inr ⟨by omega, by decide⟩)
  · intro a' W hJ
    unfold LxJ at hJ
    obtain ⟨-, p, q, L, k, n, ts, oa, oc, g1, g2, g3, g4, g5, g6, g7, HS, -, -, -, -, h4, -⟩ := hJ
    have HC := h4 rfl
    obtain ⟨U, rfl⟩ := frame121 a' _ _ _ _ _ g1 g2 g3 g4 g5 g6 g7
    clear h4 g1 g2 g3 g4 g5 g6 g7
    have hq : q ≤ s.size := HC.out.2.2.2.2.1
    have hp : p < q := HC.out.2.2.2.1
    by_cases hlt : q < s.size
    · have hee : ((q : Int) == (s.size : Int)) = false := by simp; omega
      have hbt := byte_txt s q hlt
      have hbp := byte_txt s p (by omega)
      have hqi : (q : Int) < (s.size : Int) := by omega
      have hpi : (p : Int) < (s.size : Int) := by omega
      have HNX := Hid.mk (fun h => C4.next HC.out hlt h)
      have HFN := Hid.mk (fun h => C4.fin HC.out hlt h)
      obtain ⟨c, hcc⟩ : ∃ c, bt s q = c := ⟨_, rfl⟩
      obtain ⟨d, hdd⟩ : ∃ d, bt s p = d := ⟨_, rfl⟩
      have hbt' : ((s[q].toNat : Nat) : Int) = c := hbt.trans hcc
      have hbp' : ((s[p].toNat : Nat) : Int) = d := hbp.trans hdd
      rw [hcc, hdd] at HNX HFN
      clear hbt hbp hcc hdd HC
      by_cases hne : c = d
      · have hcmp : (c != d) = false := by simpa using hne
        obtain ⟨hpq, h5⟩ := HFN.out hne
        have HC5 := Hid.mk h5
        have hsl : ∀ w, (Instr.slice 9 (.string s) (some (.int .i64 ((p : Int) + 1))) (some (.int .i64 (q : Int))) none).run Tryd.prog w = .ok (.string (s.extract (p + 1) q)) w := fun w => by
          have := run_slice_string (P := Tryd.prog) w 9 s .i64 .i64 ((p : Int) + 1) (q : Int) Tryd.underlying9 (by omega) (by omega) (by omega)
          rw [this]; rfl
        generalize s.extract (p + 1) q = x at *
        clear hne HNX HFN h5
        go_wp2_with fail
        refine wp_region_quiet_below (by kernel_rfl) (by kernel_rfl) ?_
        quiet_step (fail)
        quiet_step (fail)
        quiet_step (fail)
        quiet_step (fail)
        quiet_step (fail)
        quiet_step (fail)
        quiet_step (fail)
        refine wpQuiet_nil ?_
        intro w6 hw'
        obtain ⟨⟨dq, osq⟩, hw''⟩ := hw'
        have hb6 : Below W.heap.size W w6 := by rw [hw'']; exact below_regrown _ _ _
        have HS6 := Hid.mk (HS.out.grow hb6)
        clear hw'' hb6 HS
        have HSx := Hid.mk (HS6.out.s2 x)
        have c0 := HS6.out.bx.c0
        have c1 := HS6.out.bx.c1
        have c2 := HS6.out.bx.c2
        have f0 := HS6.out.bx.fr 0
        have f1 := HS6.out.bx.fr 1
        have f2 := HS6.out.bx.fr 2
        clear HS6
        go_wp2
        go_step3
        rw [show (q : Int) + 1 = ((q + 1 : Nat) : Int) by omega]
        obtain ⟨ts, hts⟩ : ∃ ts, x = ts := ⟨_, rfl⟩
        rw [hts] at HC5 HSx hsl ⊢
        clear hts hsl c0 c1 c2 f0 f1 f2
        obtain ⟨hqs, hps, htz⟩ := HC5.out.q
        have HTO := Hid.mk (fun W' => implTokenOk_any k n ts W' (by have := HSM.out; unfold maxLen at *; omega))
        have HBAD := Hid.mk (fun h => C5.bad HC5.out h)
        have HON := Hid.mk (fun h h' => C5.on HC5.out h h')
        have hL2 := HSx.out.len
        have hLc := HSx.out.cap
        have c0 := HSx.out.bx.c0
        have c1 := HSx.out.bx.c1
        have c2 := HSx.out.bx.c2
        have f0 := HSx.out.bx.fr 0
        have f1 := HSx.out.bx.fr 1
        have f2 := HSx.out.bx.fr 2
        have HTZ := Hid.mk htz
        have htm : ts.size ≤ 1048576 := by omega
        clear HC5 htz
        cases htb : tokB k n ts with
        | false =>
          have hbad := HBAD.out (.inl htb)
          have hlit := Hid.mk (HRES.out.symm.trans hbad)
          rw [htb] at HTO
          clear HBAD HON hbad htb
          go_wp2_with fail
          refine (HTO.out _).mono ?_
          rintro e w2 ⟨rfl, hb2⟩
          have HS2 := Hid.mk (HSx.out.grow hb2)
          have O4 : Hid (OwnK (w2.alloc (.cells #[] 31)) w.heap.size (.slice (some ⟨w2.heap.size, 0, none⟩) 0 0) []) := World.ownsRow_lit w2 #[] 0 HS2.out.b.size (by decide) rfl
          have B4 : Hid (Below w.heap.size w (w2.alloc (.cells #[] 31))) := HS2.out.b.alloc HS2.out.b.size _
          clear HS2 hb2 HTO c0 c1 c2 f0 f1 f2
          go_wp2
          simp only [Jmp]
          refine bodyPost_ret (v := .tuple #[.slice (some ⟨w2.heap.size, 0, none⟩) 0 0, .int .i64 (p : Int)]) (by simp [results, Tryd.results8, go_sem]) rfl ⟨_, by rw [hlit.out], by rw [hlit.out]; exact O4.out, B4.out⟩
        | true =>
          rw [htb] at HTO
          by_cases h2000 : L.length = 2000
          · have hbad := HBAD.out (.inr h2000)
            have hlit := Hid.mk (HRES.out.symm.trans hbad)
            have h2i : ((L.length : Int) == 2000) = true := by simp; omega
            clear HBAD HON hbad htb
            go_wp2_with fail
            refine (HTO.out _).mono ?_
            rintro e w2 ⟨rfl, hb2⟩
            have HS2 := Hid.mk (HSx.out.grow hb2)
            have O4 : Hid (OwnK (w2.alloc (.cells #[] 31)) w.heap.size (.slice (some ⟨w2.heap.size, 0, none⟩) 0 0) []) := World.ownsRow_lit w2 #[] 0 HS2.out.b.size (by decide) rfl
            have B4 : Hid (Below w.heap.size w (w2.alloc (.cells #[] 31))) := HS2.out.b.alloc HS2.out.b.size _
            clear HS2 hb2 HTO c0 c1 c2 f0 f1 f2
            go_wp2
            simp only [Jmp]
            refine bodyPost_ret (v := .tuple #[.slice (some ⟨w2.heap.size, 0, none⟩) 0 0, .int .i64 (p : Int)]) (by simp [results, Tryd.results8, go_sem]) rfl ⟨_, by rw [hlit.out], by rw [hlit.out]; exact O4.out, B4.out⟩
          · have HN := Hid.mk (HON.out htb h2000)
            have HTK := Hid.mk htb
            have H20 := Hid.mk h2000
            have h2i : ((L.length : Int) == 2000) = false := by simp; omega
            clear HBAD HON htb h2000
            go_wp2_with fail
            refine (HTO.out _).mono ?_
            rintro e w2 ⟨rfl, hb2⟩
            have HS2 := Hid.mk (HSx.out.grow hb2)
            clear hb2 HTO c0 c1 c2 f0 f1 f2 HSx
            have c0 := HS2.out.bx.c0
            have c1 := HS2.out.bx.c1
            have c2 := HS2.out.bx.c2
            have f0 := HS2.out.bx.fr 0
            have f1 := HS2.out.bx.fr 1
            have f2 := HS2.out.bx.fr 2
            go_wp2_with fail
            refine (clone_any ts _ htm).mono ?_
            rintro e w3 ⟨rfl, hb3⟩
            have HS3 := Hid.mk (HS2.out.grow hb3)
            clear hb3 HS2 c0 c1 c2 f0 f1 f2
            have c0 := HS3.out.bx.c0
            have c1 := HS3.out.bx.c1
            have c2 := HS3.out.bx.c2
            have f0 := HS3.out.bx.fr 0
            have f1 := HS3.out.bx.fr 1
            have f2 := HS3.out.bx.fr 2
            have HS4 := Hid.mk (HS3.out.s2 ts)
            have hsz : (w3.setCell ⟨w.heap.size + 1, 2, none⟩ (.string ts)).heap.size = w3.heap.size := by simp
            have BL : Below (w3.setCell ⟨w.heap.size + 1, 2, none⟩ (.string ts)).heap.size (w3.setCell ⟨w.heap.size + 1, 2, none⟩ (.string ts)) ((w3.setCell ⟨w.heap.size + 1, 2, none⟩ (.string ts)).alloc (.cells #[.int .i64 k, .int .i64 n, .string ts] 31)) := (Below.refl _ _).alloc (Nat.le_refl _) _
            have HS5 := Hid.mk (HS4.out.grow BL)
            have HN1 : Hid (((w3.setCell ⟨w.heap.size + 1, 2, none⟩ (.string ts)).alloc (.cells #[.int .i64 k, .int .i64 n, .string ts] 31)).heap[w3.heap.size]? = some (.cells #[.int .i64 k, .int .i64 n, .string ts] 31 (0, 0))) := by
              have := heap_alloc_new (w3.setCell ⟨w.heap.size + 1, 2, none⟩ (.string ts)) (.cells #[.int .i64 k, .int .i64 n, .string ts] 31)
              rw [hsz] at this
              exact this
            have hge : w.heap.size ≤ w3.heap.size + 1 := by have := HS3.out.b.size; omega
            clear HS3 HS4 BL hsz
            go_wp2_with (at_builtin; refine wpList_append_k (w0 := w) rfl _ _ rfl w.heap.size _ L ⟨k, n, ts⟩ rfl HS5.out.own _ rfl HN1.out HS5.out.b (by simp; omega) (by omega) ?_)
            intro v5 w5 hown5 hbel5 hq5 hn5
            obtain ⟨va, vc, hv5, hvc⟩ := hown5.lenV
            subst hv5
            have HSN := Hid.mk (HS5.out.snoc hown5 hbel5 hn5 H20.out HTK.out HTZ.out hvc)
            obtain ⟨L', hL'⟩ : ∃ L', L ++ [(⟨k, n, ts⟩ : Tk)] = L' := ⟨_, rfl⟩
            rw [hL'] at HSN HN ⊢
            clear hown5 hbel5 hq5 hn5 hvc hL' HS5 HN1 H20 HTK HTZ h2i c0 c1 c2 f0 f1 f2 hge
            go_wp2
            go_step3
            refine ⟨by unfold LxJ; exact ⟨by omega, p, q + 1, L', k, n, ts, va, vc, rfl, rfl, rfl, rfl, rfl, rfl, rfl, HSN, fun _ => HN, fun h => by omega, fun h => by omega, fun h => by omega, fun h => by omega, fun h => by omega⟩, ?_⟩
            show lxN s 0 (q + 1) < lxN s 4 q
            exact lxN_lt hq (by first | exact .inl ⟨by omega, by omega⟩ | exact .inr ⟨rfl, by decide⟩)
      · have hcmp : (c != d) = true := by simpa using hne
        have HN := Hid.mk (HNX.out hne)
        clear hne HNX HFN
        go_wp2_with fail
        refine wp_region_quiet_below (by kernel_rfl) (by kernel_rfl) ?_
        quiet_step (fail)
        quiet_step (fail)
        quiet_step (fail)
        quiet_step (fail)
        quiet_step (fail)
        quiet_step (fail)
        quiet_step (fail)
        refine wpQuiet_nil ?_
        intro w6 hw'
        obtain ⟨⟨dq, osq⟩, hw''⟩ := hw'
        have hb6 : Below W.heap.size W w6 := by rw [hw'']; exact below_regrown _ _ _
        have HS6 := Hid.mk (HS.out.grow hb6)
        clear hw'' hb6 HS
        go_wp2
        go_step3
        rw [show (q : Int) + 1 = ((q + 1 : Nat) : Int) by omega]
        refine ⟨by unfold LxJ; exact ⟨by omega, p, q + 1, L, k, n, ts, oa, oc, rfl, rfl, rfl, rfl, rfl, rfl, rfl, HS6, fun h => by omega, fun h => by omega, fun h => by omega, fun h => by omega, fun _ => HN, fun h => by omega⟩, ?_⟩
        show lxN s 4 (q + 1) < lxN s 4 q
        exact lxN_lt hq (by first | exact .inl ⟨by omega, by omega⟩ | exact .inr ⟨rfl, by decide⟩)
    · have hee : ((q : Int) == (s.size : Int)) = true := by simp; omega
      obtain rfl : q = s.size := by omega
      have hlit := Hid.mk (HRES.out.symm.trans (C4.bad HC.out))
      have O4 : Hid (OwnK (W.alloc (.cells #[] 31)) w.heap.size (.slice (some ⟨W.heap.size, 0, none⟩) 0 0) []) := World.ownsRow_lit W #[] 0 HS.out.b.size (by decide) rfl
      have B4 : Hid (Below w.heap.size w (W.alloc (.cells #[] 31))) := HS.out.b.alloc HS.out.b.size _
      clear HC HS
      go_wp2
      simp only [Jmp]
      refine bodyPost_ret (v := .tuple #[.slice (some ⟨W.heap.size, 0, none⟩) 0 0, .int .i64 (p : Int)]) (by simp [results, Tryd.results8, go_sem]) rfl ⟨_, by rw [hlit.out], by rw [hlit.out]; exact O4.out, B4.out⟩
  · intro a' W hJ
    unfold LxJ at hJ
    obtain ⟨-, p, q, L, k, n, ts, oa, oc, g1, g2, g3, g4, g5, g6, g7, HS, -, -, -, -, -, h5⟩ := hJ
    have HC := h5 rfl
    obtain ⟨U, rfl⟩ := frame121 a' _ _ _ _ _ g1 g2 g3 g4 g5 g6 g7
    clear h5 g1 g2 g3 g4 g5 g6 g7
    have HC5 := Hid.mk HC.out
    have hq : q ≤ s.size := HC.out.q.1
    clear HC

    obtain ⟨hqs, hps, htz⟩ := HC5.out.q
    have HTO := Hid.mk (fun W' => implTokenOk_any k n ts W' (by have := HSM.out; unfold maxLen at *; omega))
    have HBAD := Hid.mk (fun h => C5.bad HC5.out h)
    have HON := Hid.mk (fun h h' => C5.on HC5.out h h')
    have hL2 := HS.out.len
    have hLc := HS.out.cap
    have c0 := HS.out.bx.c0
    have c1 := HS.out.bx.c1
    have c2 := HS.out.bx.c2
    have f0 := HS.out.bx.fr 0
    have f1 := HS.out.bx.fr 1
    have f2 := HS.out.bx.fr 2
    have HTZ := Hid.mk htz
    have htm : ts.size ≤ 1048576 := by omega
    clear HC5 htz
    cases htb : tokB k n ts with
    | false =>
      have hbad := HBAD.out (.inl htb)
      have hlit := Hid.mk (HRES.out.symm.trans hbad)
      rw [htb] at HTO
      clear HBAD HON hbad htb
      go_wp2_with fail
      refine (HTO.out _).mono ?_
      rintro e w2 ⟨rfl, hb2⟩
      have HS2 := Hid.mk (HS.out.grow hb2)
      have O4 : Hid (OwnK (w2.alloc (.cells #[] 31)) w.heap.size (.slice (some ⟨w2.heap.size, 0, none⟩) 0 0) []) := World.ownsRow_lit w2 #[] 0 HS2.out.b.size (by decide) rfl
      have B4 : Hid (Below w.heap.size w (w2.alloc (.cells #[] 31))) := HS2.out.b.alloc HS2.out.b.size _
      clear HS2 hb2 HTO c0 c1 c2 f0 f1 f2
      go_wp2
      simp only [Jmp]
      refine bodyPost_ret (v := .tuple #[.slice (some ⟨w2.heap.size, 0, none⟩) 0 0, .int .i64 (p : Int)]) (by simp [results, Tryd.results8, go_sem]) rfl ⟨_, by rw [hlit.out], by rw [hlit.out]; exact O4.out, B4.out⟩
    | true =>
      rw [htb] at HTO
      by_cases h2000 : L.length = 2000
      · have hbad := HBAD.out (.inr h2000)
        have hlit := Hid.mk (HRES.out.symm.trans hbad)
        have h2i : ((L.length : Int) == 2000) = true := by simp; omega
        clear HBAD HON hbad htb
        go_wp2_with fail
        refine (HTO.out _).mono ?_
        rintro e w2 ⟨rfl, hb2⟩
        have HS2 := Hid.mk (HS.out.grow hb2)
        have O4 : Hid (OwnK (w2.alloc (.cells #[] 31)) w.heap.size (.slice (some ⟨w2.heap.size, 0, none⟩) 0 0) []) := World.ownsRow_lit w2 #[] 0 HS2.out.b.size (by decide) rfl
        have B4 : Hid (Below w.heap.size w (w2.alloc (.cells #[] 31))) := HS2.out.b.alloc HS2.out.b.size _
        clear HS2 hb2 HTO c0 c1 c2 f0 f1 f2
        go_wp2
        simp only [Jmp]
        refine bodyPost_ret (v := .tuple #[.slice (some ⟨w2.heap.size, 0, none⟩) 0 0, .int .i64 (p : Int)]) (by simp [results, Tryd.results8, go_sem]) rfl ⟨_, by rw [hlit.out], by rw [hlit.out]; exact O4.out, B4.out⟩
      · have HN := Hid.mk (HON.out htb h2000)
        have HTK := Hid.mk htb
        have H20 := Hid.mk h2000
        have h2i : ((L.length : Int) == 2000) = false := by simp; omega
        clear HBAD HON htb h2000
        go_wp2_with fail
        refine (HTO.out _).mono ?_
        rintro e w2 ⟨rfl, hb2⟩
        have HS2 := Hid.mk (HS.out.grow hb2)
        clear hb2 HTO c0 c1 c2 f0 f1 f2 HS
        have c0 := HS2.out.bx.c0
        have c1 := HS2.out.bx.c1
        have c2 := HS2.out.bx.c2
        have f0 := HS2.out.bx.fr 0
        have f1 := HS2.out.bx.fr 1
        have f2 := HS2.out.bx.fr 2
        go_wp2_with fail
        refine (clone_any ts _ htm).mono ?_
        rintro e w3 ⟨rfl, hb3⟩
        have HS3 := Hid.mk (HS2.out.grow hb3)
        clear hb3 HS2 c0 c1 c2 f0 f1 f2
        have c0 := HS3.out.bx.c0
        have c1 := HS3.out.bx.c1
        have c2 := HS3.out.bx.c2
        have f0 := HS3.out.bx.fr 0
        have f1 := HS3.out.bx.fr 1
        have f2 := HS3.out.bx.fr 2
        have HS4 := Hid.mk (HS3.out.s2 ts)
        have hsz : (w3.setCell ⟨w.heap.size + 1, 2, none⟩ (.string ts)).heap.size = w3.heap.size := by simp
        have BL : Below (w3.setCell ⟨w.heap.size + 1, 2, none⟩ (.string ts)).heap.size (w3.setCell ⟨w.heap.size + 1, 2, none⟩ (.string ts)) ((w3.setCell ⟨w.heap.size + 1, 2, none⟩ (.string ts)).alloc (.cells #[.int .i64 k, .int .i64 n, .string ts] 31)) := (Below.refl _ _).alloc (Nat.le_refl _) _
        have HS5 := Hid.mk (HS4.out.grow BL)
        have HN1 : Hid (((w3.setCell ⟨w.heap.size + 1, 2, none⟩ (.string ts)).alloc (.cells #[.int .i64 k, .int .i64 n, .string ts] 31)).heap[w3.heap.size]? = some (.cells #[.int .i64 k, .int .i64 n, .string ts] 31 (0, 0))) := by
          have := heap_alloc_new (w3.setCell ⟨w.heap.size + 1, 2, none⟩ (.string ts)) (.cells #[.int .i64 k, .int .i64 n, .string ts] 31)
          rw [hsz] at this
          exact this
        have hge : w.heap.size ≤ w3.heap.size + 1 := by have := HS3.out.b.size; omega
        clear HS3 HS4 BL hsz
        go_wp2_with (at_builtin; refine wpList_append_k (w0 := w) rfl _ _ rfl w.heap.size _ L ⟨k, n, ts⟩ rfl HS5.out.own _ rfl HN1.out HS5.out.b (by simp; omega) (by omega) ?_)
        intro v5 w5 hown5 hbel5 hq5 hn5
        obtain ⟨va, vc, hv5, hvc⟩ := hown5.lenV
        subst hv5
        have HSN := Hid.mk (HS5.out.snoc hown5 hbel5 hn5 H20.out HTK.out HTZ.out hvc)
        obtain ⟨L', hL'⟩ : ∃ L', L ++ [(⟨k, n, ts⟩ : Tk)] = L' := ⟨_, rfl⟩
        rw [hL'] at HSN HN ⊢
        clear hown5 hbel5 hq5 hn5 hvc hL' HS5 HN1 H20 HTK HTZ h2i c0 c1 c2 f0 f1 f2 hge
        go_wp2
        go_step3
        refine ⟨by unfold LxJ; exact ⟨by omega, p, q, L', k, n, ts, va, vc, rfl, rfl, rfl, rfl, rfl, rfl, rfl, HSN, fun _ => HN, fun h => by omega, fun h => by omega, fun h => by omega, fun h => by omega, fun h => by omega⟩, ?_⟩
        show lxN s 0 (q) < lxN s 5 q
        exact lxN_lt hq (by first | exact .inl ⟨by omega, by omega⟩ | exact .inr ⟨rfl, by decide⟩)
end Go.Proofs.YtapcbblfcmdbnaaDoor

namespace Go.Proofs.YtapcbblfcmdbnaaDoor
open Go.RowKit
set_option maxRecDepth 8000

theorem mDig_len (n : Nat) : ∀ o : ByteArray, (mDig n o).size ≤ n + o.size := by
  induction n using Nat.strongRecOn with
  | _ n ih =>
    intro o
    by_cases h : n = 0
    · subst h; rw [mDig_zero]; omega
    · rw [mDig_step n (by omega)]
      have := ih (n / 10) (by omega) (strOf [48 + (n : Int) % 10] ++ o)
      rw [ByteArray.size_append, strOf_size] at this
      simp at this
      omega
theorem mkS_len (n : Nat) : (mkS n).size ≤ n + 2 := by
  unfold mkS
  split
  · exact Nat.le_add_left 2 n
  · have := mDig_len n ⟨#[]⟩
    have e : (ByteArray.mk #[] : ByteArray).size = 0 := rfl
    have e1 : (ByteArray.mk #[109] : ByteArray).size = 1 := rfl
    rw [ByteArray.size_append, e1]
    omega
theorem lexF_ok (s : ByteArray) : ∀ (f p : Nat) (L : List Tk), L.length ≤ 2000 → (∀ x ∈ L, tkOkB x = true ∧ x.s.size ≤ s.size) → (lexF s f p L).1.length ≤ 2000 ∧ ∀ x ∈ (lexF s f p L).1, tkOkB x = true ∧ x.s.size ≤ s.size
  | 0, p, L, _, _ => by simp [lexF]
  | f + 1, p, L, hl, hx => by
    unfold lexF
    split
    · split
      · rename_i h
        refine lexF_ok s f _ _ (by have := h.2; simp; omega) ?_
        intro x hm
        rcases List.mem_append.1 hm with hm | hm
        · exact hx x hm
        · rw [List.mem_singleton.1 hm]
          exact ⟨h.1, oneT_sz s p (tiL L)⟩
      · simp
    · exact ⟨hl, hx⟩
theorem lexT_ok (s : ByteArray) : (lexT s).1.length ≤ 2000 ∧ ∀ x ∈ (lexT s).1, tkOkB x = true ∧ x.s.size ≤ s.size := lexF_ok s _ _ [] (by simp) (by simp)

/-- A slice that reads these tokens, its block (where there are any) below M. -/
def TlN (w : World) (M : Nat) (L : List Tk) (v : Value) : Prop := Tl w L v ∧ (L ≠ [] → ∀ b off len cap, v = .slice (some ⟨b, off, none⟩) len cap → b < M)
theorem TlN.of {w : World} {v : Value} {L : List Tk} (h : Tl w L v) : TlN w w.heap.size L v := by
  refine ⟨h, fun hn b off len cap e => ?_⟩
  obtain ⟨ao, cap', rfl, _, _, _, _, h5⟩ := h
  obtain ⟨b', off', rfl, h7⟩ := h5 hn
  simp only [Value.slice.injEq, Option.some.injEq, Addr.mk.injEq, and_true] at e
  obtain ⟨⟨rfl, rfl⟩, _⟩ := e
  exact World.block_lt_of_cell? w _ (h7 0 (List.length_pos_iff.2 hn)).1
theorem TlN.keep {w w' : World} {M : Nat} {v : Value} {L : List Tk} (h : TlN w M L v) (hk : ∀ b, b < M → w'.heap[b]? = w.heap[b]?) : TlN w' M L v := by
  obtain ⟨⟨ao, cap, h1, h2, h3, h4, h5, h6⟩, h7⟩ := h
  refine ⟨⟨ao, cap, h1, h2, h3, h4, h5, fun hn => ?_⟩, h7⟩
  obtain ⟨b, off, rfl, h8⟩ := h6 hn
  exact ⟨b, off, rfl, fun i hi => (h8 i hi).kept (hk b (h7 hn _ _ _ _ h1))⟩
theorem OwnK.lies {w : World} {base : Nat} {v : Value} {L : List Tk} (h : OwnK w base v L) : ∀ g, v.ownBlock = some g → base ≤ g := fun g hg => (World.ownsRow.lt h g hg).1
theorem marksT_sz (j n : Nat) (h : j + 3 * n ≤ 1048576) : ∀ x ∈ marksT j n, x.s.size ≤ maxLen := by
  intro x hx
  unfold marksT at hx
  obtain ⟨i, hi, rfl⟩ := List.mem_map.1 hx
  have hi' := List.mem_range.1 hi
  have := mkS_len (j + 3 * i + 2)
  unfold mkTk maxLen
  simp only
  omega
end Go.Proofs.YtapcbblfcmdbnaaDoor

namespace Go.Proofs.YtapcbblfcmdbnaaDoor
open Go.RowKit
set_option maxRecDepth 8000

set_option maxHeartbeats 2000000 in
theorem fnExactLex_walk (s : ByteArray) (w : World) (hs : s.size ≤ maxLen) (ht : Tab w) (he : ErrR w) :
    Calls Tryd.prog 5 #[.string s] w fun e w' => e = .returned (.bool true) ∧ Below w.heap.size w w' := by
  unfold maxLen at hs
  by_cases hz : (1048576 : Int) < (s.size : Int)
  · clear ht he
    go_enter Tryd.func5, Tryd.ntmps5
    go_wp2
    go_ret
    exact ⟨rfl, Below.refl _ _⟩
  have HSO := Hid.mk (fun w' => specLex_any s w' (by omega))
  have HIO := Hid.mk (fun w' ht he => implLex_any s w' (by omega) ht he)
  have HTB := Hid.mk (fun W (hb : Below w.heap.size w W) => ht.grow hb)
  have HER := Hid.mk (fun W (hb : Below w.heap.size w W) => he.grow hb)
  obtain ⟨hln, hall⟩ := lexT_ok s
  have HSZ : Hid (∀ x ∈ (lexT s).1, x.s.size ≤ maxLen) := fun x hx => by have := (hall x hx).2; unfold maxLen; omega
  clear hall ht he
  generalize lexT s = R at *
  obtain ⟨L, pl⟩ := R
  simp only at HSO HIO hln HSZ
  have HEQ := Hid.mk (fun (w' : World) (u u' : Value) (h : Tl w' L u) (h' : Tl w' L u') => eqTokenS_same L u u' w' h h')
  have hpl : (pl != pl) = false := by simp
  go_enter Tryd.func5, Tryd.ntmps5
  go_wp2_with fail
  refine (HSO.out _).mono ?_
  rintro e w1 ⟨v1, rfl, ho1, hb1⟩
  have B1 := Hid.mk hb1
  have T1 := Hid.mk (TlN.of (ho1.tl HSZ.out))
  have hwM : w.heap.size ≤ w1.heap.size := hb1.size
  obtain ⟨a1, c1, hv1, -⟩ := ho1.lenV
  subst hv1
  clear hb1 ho1 HSO
  go_wp2_with fail
  refine (HIO.out _ (HTB.out _ B1.out) (HER.out _ B1.out)).mono ?_
  rintro e w2 ⟨v2, rfl, ho2, hb2⟩
  have B2 := Hid.mk (B1.out.trans (hb2.mono B1.out.size))
  have T2 := Hid.mk (T1.out.keep (w' := w2) (fun b hb => hb2.block b hb))
  have O2 := Hid.mk ho2
  have s2 : w1.heap.size ≤ w2.heap.size := hb2.size
  have HE2 := Hid.mk (HEQ.out _ _ _ (ho2.tl HSZ.out) T2.out.1)
  obtain ⟨a2, c2, hv2, -⟩ := ho2.lenV
  subst hv2
  generalize w1.heap.size = M1 at *
  clear hb2 ho2 B1 T1
  go_wp2_with fail
  refine HE2.out.mono ?_
  rintro e w3 ⟨rfl, D3⟩
  have B3 := Hid.mk (B2.out.trans (D3.mono B2.out.size))
  have T3 := Hid.mk (T2.out.keep (w' := w3) (fun b hb => D3.block b (by omega)))
  have O3 := Hid.mk (O2.out.grow D3)
  have s3 : M1 ≤ w3.heap.size := by have := D3.size; omega
  have hm3 := Hid.mk (markTokS_any _ 1 _ L w3 O3.out (by omega) (by omega))
  have hl3 := O3.out.lies
  clear D3 HE2 B2 T2 O2 s2
  go_wp2_with fail
  refine hm3.out.mono ?_
  rintro e w4 ⟨rfl, ho4, hg4⟩
  obtain ⟨q, hq⟩ : ∃ q : Int, ((1 + 3 * L.length : Nat) : Int) = q := ⟨_, rfl⟩
  have hq0 : ¬ q < 0 := by omega
  have hqq : (q != q) = false := by simp
  have HQ := Hid.mk hq
  rw [hq]
  clear hq
  have hblk : ∀ b, b < w3.heap.size → b < M1 → w4.heap[b]? = w3.heap[b]? := fun b hb hne => hg4.block b hb (fun e => by have := hl3 b e.symm; omega)
  have T4 := Hid.mk (T3.out.keep (w' := w4) (fun b hb => hblk b (by omega) hb))
  have O4 := Hid.mk ho4
  have B4 : Hid (Below w.heap.size w w4) := B3.out.trans (⟨hg4.os, hg4.tape, hg4.output, hg4.size, fun b hb => hblk b (by omega) (by omega)⟩ : Below w.heap.size w3 w4)
  have s4 : M1 ≤ w4.heap.size := by have := hg4.size; omega
  have HMZ := Hid.mk (marksT_sz 1 L.length (by omega))
  have HH4 := Hid.mk (heldTokenS_marks 1 L.length _ w4 (O4.out.tl HMZ.out) (by omega) (by omega))
  rw [HQ.out] at HH4
  clear hblk hl3 hm3 ho4 hg4 B3 T3 O3 s3
  go_wp2_with fail
  refine HH4.out.mono ?_
  rintro e w5 ⟨rfl, hb5⟩
  have B5 := Hid.mk (B4.out.trans (hb5.mono B4.out.size))
  have T5 := Hid.mk (T4.out.keep (w' := w5) (fun b hb => hb5.block b (by omega)))
  have O5 := Hid.mk (O4.out.grow hb5)
  have s5 : M1 ≤ w5.heap.size := by have := hb5.size; omega
  clear hb5 HH4 B4 T4 O4 s4
  go_wp2_with fail
  refine (HIO.out _ (HTB.out _ B5.out) (HER.out _ B5.out)).mono ?_
  rintro e w6 ⟨v6, rfl, ho6, hb6⟩
  have B6 := Hid.mk (B5.out.trans (hb6.mono B5.out.size))
  have T6 := Hid.mk (T5.out.keep (w' := w6) (fun b hb => hb6.block b (by omega)))
  have O6 := Hid.mk (O5.out.grow hb6)
  have HE6 := Hid.mk (HEQ.out _ _ _ (ho6.tl HSZ.out) T6.out.1)
  obtain ⟨a6, c6, hv6, -⟩ := ho6.lenV
  subst hv6
  clear hb6 ho6 B5 T5 O5 s5 HIO
  go_wp2_with fail
  refine HE6.out.mono ?_
  rintro e w7 ⟨rfl, D7⟩
  have B7 := Hid.mk (B6.out.trans (D7.mono B6.out.size))
  have O7 := Hid.mk (O6.out.grow D7)
  have HH7 := Hid.mk (heldTokenS_marks 1 L.length _ w7 (O7.out.tl HMZ.out) (by omega) (by omega))
  rw [HQ.out] at HH7
  clear D7 HE6 B6 T6 O6
  go_wp2_with fail
  refine HH7.out.mono ?_
  rintro e w8 ⟨rfl, hb8⟩
  have B8 := Hid.mk (B7.out.trans (hb8.mono B7.out.size))
  clear hb8 HH7 B7 O7
  go_wp2
  go_ret
  exact ⟨rfl, B8.out⟩
end Go.Proofs.YtapcbblfcmdbnaaDoor
