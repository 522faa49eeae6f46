/- The machine of an expression: NfaOf of the model. -/
import Derived.Test.YtapniafhcagogaaLayA
import Derived.Test.YtapniafhcagogaaExactRexOk
import Derived.Test.YtapniafhcagogaaMarkNode
import Derived.Test.YtapniafhcagogaaIntKeep
import Derived.Test.YtapniafhcagogaaTake
namespace Go.Proofs.Ytapniafhcagogaa
open Go.RowKit
set_option maxRecDepth 8000

def doneN : Nd := ⟨7, noS, 0, 0⟩
/-- The nodes of an expression's machine. -/
def nfN (t : Tr) : List Nd := if okR t = true then t.lay 0 ++ [doneN] else []
theorem nsz_cnt (t : Tr) : t.nsz + 2 ≤ 4 * t.cnt := by
  refine Tr.ind (P := fun t => t.nsz + 2 ≤ 4 * t.cnt) ?_ t
  intro t ih
  have hl : nszL t.l + 2 * t.l.length ≤ 4 * cntL t.l := by
    revert ih
    generalize t.l = l
    intro ih
    induction l with
    | nil => simp [nszL, cntL]
    | cons x r ihr =>
      have h1 := ih x (List.mem_cons_self ..)
      have h2 := ihr fun y hy => ih y (List.mem_cons_of_mem _ hy)
      simp only [nszL, cntL, List.length_cons]
      omega
  rw [cnt_eq, nsz_eq]
  split
  · omega
  · split
    · omega
    · split
      · omega
      · omega
theorem okR_tree {t : Tr} (h : okR t = true) : t.okT = true := by
  unfold okR at h
  rw [Bool.and_eq_true] at h
  exact h.2
theorem okR_nsz {t : Tr} (h : okR t = true) : t.nsz ≤ 238 := by
  unfold okR at h
  rw [Bool.and_eq_true] at h
  have h1 := ((parts_spec 6 t).1.1 (by simpa using h.1)).2
  have h2 := nsz_cnt t
  omega

theorem OwnN.nil (w : World) (base : Nat) : OwnN w base (.slice none 0 0) [] := ⟨rfl, .inl ⟨rfl, rfl⟩⟩

theorem Below.nign {w w1 w2 : World} {base : Nat} {o o' : Value} {L : List Nd} (h : Below base w w1) (ho : OwnN w1 base o L) (k : Nign w1 w2 o o') (hb : base ≤ w1.heap.size) : Below base w w2 :=
  h.grown k.1 hb fun g hg => (World.ownsRow.lt ho g hg).1

theorem OwnN.setLow {w : World} {base : Nat} {v : Value} {L : List Nd} (h : OwnN w base v L) {a : Addr} (ha : a.block < base) (x : Value) : OwnN (w.setCell a x) base v L := by
  refine ⟨h.1, ?_⟩
  rcases h.2 with h' | ⟨g, cap, cur, e, hb, hg, rest⟩
  · exact Or.inl h'
  · exact Or.inr ⟨g, cap, cur, e, hb, by rw [heap_setCell_other _ a g _ (by omega)]; exact hg, rest⟩
theorem Bx1.put {w : World} {b : Nat} {t : TypeId} {x : Value} (h : Bx1 w b t x) (y : Value) : Bx1 (w.setCell ⟨b, 0, none⟩ y) b t y := by
  unfold Bx1
  rw [heap_setCell_same w b 0 _ _ y h]
  rfl

set_option maxHeartbeats 2000000 in
theorem specNfaOf_any (t : Tr) (B : Nat → Prop) (v : Value) (w : World) (h : Rl w B t.l v) (hs : t.s.size ≤ maxLen) :
    Calls Try.prog 23 #[rx t.k t.s v] w fun e w' => ∃ u, e = .returned (.agg #[u]) ∧ OwnN w' w.heap.size u (nfN t) ∧ Below w.heap.size w w' := by
  have HC := Hid.mk (fun (w' : World) (hb : Below w.heap.size w w') => specRexOk_any t B v w' (h.grow hb) hs)
  have HL : Hid (∀ (w1 : World), Below w.heap.size w w1 → ∀ (w' : World) (o : Value), Below w1.heap.size w1 w' → OwnN w' w1.heap.size o [] → okR t = true → Calls Try.prog 48 #[o, rx t.k t.s v] w' fun e w'' => ∃ o', e = .returned o' ∧ OwnN w'' w1.heap.size o' (t.lay 0) ∧ Nign w' w'' o o') := fun w1 h1 w' o hb ho hk => by
    have h2 := okR_nsz hk
    have hb2 := h1.trans (hb.mono h1.size)
    exact l5Lay_any t (fun b => b < w.heap.size) v o w1.heap.size [] w' (((h.imp (C := fun b => b < w.heap.size) fun _ _ hb => hb)).kept fun b hb' _ => hb2.block b hb') (fun b h => by have := h1.size; omega) hb.size ho hs (okR_tree hk) (by simp; omega)
  have HE : Hid (okR t = true → nfN t = t.lay 0 ++ [doneN]) := fun h => by unfold nfN; rw [if_pos h]
  have HE2 : Hid (okR t = false → nfN t = []) := fun h => by unfold nfN; rw [h]; rfl
  have HN : Hid (okR t = true → (t.lay 0).length ≤ 238) := fun h => by rw [lay_len t (okR_tree h)]; exact okR_nsz h
  generalize nfN t = R at *
  generalize t.lay 0 = Y at *
  obtain ⟨o, ho⟩ : ∃ o, okR t = o := ⟨_, rfl⟩
  obtain ⟨k, hk⟩ : ∃ k, t.k = k := ⟨_, rfl⟩
  obtain ⟨s, hsn⟩ : ∃ s, t.s = s := ⟨_, rfl⟩
  rw [hk, hsn, ho] at HC HL
  rw [ho] at HE HE2 HN
  rw [hk, hsn]
  obtain ⟨ao, cap, rfl, hl1, hl2, hl3⟩ := h.len
  generalize t.l.length = tl at *
  have X0 := Hid.mk ((Bz3.new w (.int .i64 k) (.string s) (.slice ao tl cap)).grow ((Below.refl (w.alloc (.cells #[.int .i64 k, .string s, .slice ao tl cap] 26)).heap.size _).alloc (Nat.le_refl _) (.cells #[.slice none 0 0] 44)))
  have Y0 := Hid.mk (Bx1.new (w.alloc (.cells #[.int .i64 k, .string s, .slice ao tl cap] 26)) 44 (.slice none 0 0))
  rw [World.size_alloc] at Y0
  have B0 : Below w.heap.size w ((w.alloc (.cells #[.int .i64 k, .string s, .slice ao tl cap] 26)).alloc (.cells #[.slice none 0 0] 44)) := ((Below.refl _ _).alloc (Nat.le_refl _) _).alloc (by simp) _
  clear h hk hsn ho hl2 hs
  cases o with
  | false =>
    have HR := Hid.mk (HE2.out rfl)
    clear HL HE HN HE2
    go_enter Try.func23, Try.ntmps23
    go_wp2_with fail
    refine (HC.out _ B0).mono ?_
    rintro e w1 ⟨rfl, hb1⟩
    have B1 := B0.trans (hb1.mono (by simp; omega))
    have Y1 := Hid.mk (Y0.out.grow hb1)
    have y1 := Y1.out.c0
    have f1 := frozen_of_row w1 _ 0 _ _ Y1.out
    have hlt1 := Y1.out.lt
    clear B0 hb1 HC X0 Y0
    go_wp2
    refine bodyPost_ret (v := .agg #[.slice none 0 0]) ?_ rfl ⟨_, rfl, ?_, ?_⟩
    · have z1 := (Y1.out.put (.slice none 0 0)).c0
      simp [results, Try.results23, go_sem, z1]
    · rw [HR.out]; exact OwnN.nil _ _
    · exact B1.setCell (by simp) _
  | true =>
    have HR := Hid.mk (HE.out rfl)
    have hlen := HN.out rfl
    clear HE HN HE2
    go_enter Try.func23, Try.ntmps23
    go_wp2_with fail
    refine (HC.out _ B0).mono ?_
    rintro e w1 ⟨rfl, hb1⟩
    have B1 := B0.trans (hb1.mono (by simp; omega))
    have X1 := Hid.mk (X0.out.grow hb1)
    have hbh := Hid.mk hb1
    have hs1 := B1.size
    clear B0 hb1 HC X0
    have Y1 := Hid.mk (Y0.out.grow hbh.out)
    have HL := Hid.mk (HL.out w1 B1)
    clear Y0 hbh
    have b2 : Hid (Below w1.heap.size w1 (w1.alloc (.cells #[] 69))) := (Below.refl _ _).alloc (Nat.le_refl _) _
    have O2 : Hid (OwnN (w1.alloc (.cells #[] 69)) w1.heap.size (.slice (some ⟨w1.heap.size, 0, none⟩) 0 0) []) := World.ownsRow_lit w1 #[] 0 (Nat.le_refl _) (by decide) rfl
    have X2 := Hid.mk (X1.out.grow b2.out)
    have x0 := X2.out.c0
    have x1 := X2.out.c1
    have x2 := X2.out.c2
    have hx := X1.out.lt
    have HL2 := Hid.mk (HL.out _ _ b2.out O2.out trivial)
    clear HL
    go_wp2_with fail
    refine HL2.out.mono ?_
    rintro e w3 ⟨o3, rfl, ho3, hn3⟩
    have b3 := Hid.mk (Below.nign b2.out O2.out hn3 (by simp))
    have hs3 := b3.out.size
    have O3 := Hid.mk ho3
    obtain ⟨oa, oc, hov, hoc⟩ := ho3.lenV
    subst hov
    clear HL2 ho3 hn3 b2 O2 x0 x1 x2 X1 X2
    generalize hY : Y.length = yl at *
    have HY := Hid.mk hY
    clear hY
    have HN1 : Hid ((w3.alloc (.cells #[.int .i64 7, .string ⟨#[]⟩, .int .i64 0, .int .i64 0] 69)).heap[w3.heap.size]? = some (.cells #[.int .i64 7, .string ⟨#[]⟩, .int .i64 0, .int .i64 0] 69 (0, 0))) := heap_alloc_new _ _
    have BA : Hid (Below w1.heap.size w1 (w3.alloc (.cells #[.int .i64 7, .string ⟨#[]⟩, .int .i64 0, .int .i64 0] 69))) := b3.out.alloc hs3 _
    have HO1 := Hid.mk (O3.out.grow ((Below.refl w3.heap.size w3).alloc (Nat.le_refl _) (.cells #[.int .i64 7, .string ⟨#[]⟩, .int .i64 0, .int .i64 0] 69)))
    go_wp2_with (at_builtin; refine wpList_append_n (w0 := w1) rfl _ _ rfl w1.heap.size _ Y doneN rfl HO1.out _ rfl HN1.out BA.out (by simp; omega) (by rw [HY.out]; omega) ?_)
    intro v4 w4 hown4 hbel4 hq hn4
    have O4 := Hid.mk hown4
    have Y4 := Hid.mk (Y1.out.grow hbel4)
    have Q4 := Hid.mk hbel4
    have y4 := Y4.out.c0
    have f4 := frozen_of_row w4 _ 0 _ _ Y4.out
    obtain ⟨va, vc, hv4, -⟩ := hown4.lenV
    subst hv4
    have hb1 := Y1.out.lt
    clear hown4 hbel4 hq hn4 HN1 BA HO1 O3 b3 Y1
    go_wp2
    have z1 := (Y4.out.put (.slice va (Y ++ [doneN]).length vc)).c0
    refine bodyPost_ret (v := .agg #[.slice va (Y ++ [doneN]).length vc]) ?_ rfl ⟨_, rfl, ?_, ?_⟩
    · simp [results, Try.results23, go_sem]
      simp at z1
      simp [z1, go_sem]
    · rw [HR.out]; exact (OwnN.setLow O4.out hb1 _).mono (by omega)
    · exact (B1.trans (Q4.out.mono (by omega))).setCell (by simp) _
end Go.Proofs.Ytapniafhcagogaa
