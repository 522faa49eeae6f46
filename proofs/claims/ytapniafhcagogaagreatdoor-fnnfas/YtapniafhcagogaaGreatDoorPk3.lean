/- A part is laid behind nodes: l5Alt of the model, one or the other. l5Lay of the model, whole. RexOk, the program's: it goes through the parts and counts down. Whether an expression can match a text at all: the program's. Whether two regular expressions are the same, by the laws' own function: two that read the same tree are. The law FnExactRexOk walked: at every regular expression the program's RexOk answers what the document's model of it answers. What marks leave: all but one block is as it was. Nodes marked by the laws: nothing but their own block turns. Slices of numbers whose block stays as it was. The machine of an expression: NfaOf of the model. The machine of an expression is right, and matches just what the expression does. -/
import Derived.Test.YtapniafhcagogaaGreatDoorPk2
import Derived.Test.YtapniafhcagogaaGreatDoorRexOkI
import Derived.Test.YtapniafhcagogaaGreatDoorRexTo
import Derived.Lib.QuietBelow
import Derived.Test.YtapniafhcagogaaGreatDoorRexOkT
import Derived.Test.YtapniafhcagogaaGreatDoorTake
import Derived.Test.YtapniafhcagogaaGreatDoorBytes
import Derived.Test.YtapniafhcagogaaGreatDoorNodeTo
import Derived.Test.YtapniafhcagogaaGreatDoorMarkT
import Derived.Test.YtapniafhcagogaaGreatDoorPk1
import Derived.Test.YtapniafhcagogaaGreatDoorNfaSound
namespace Go.Proofs.YtapniafhcagogaaGreatDoor
open Go.RowKit
set_option maxRecDepth 8000

/-- The parts before the last of one or the other. -/
def layK : List Tr → Nat → Nat → List Nd
  | [], _, _ => []
  | t :: r, p, q => split (p + 1) (p + 2 + t.nsz) :: (t.lay (p + 1) ++ split q q :: layK r (p + 2 + t.nsz) q)
theorem layK_snoc : ∀ (l : List Tr) (x : Tr) (p q : Nat), layK (l ++ [x]) p q = layK l p q ++ (split (p + nszL l + 2 * l.length + 1) (p + nszL l + 2 * l.length + 2 + x.nsz) :: (x.lay (p + nszL l + 2 * l.length + 1) ++ [split q q]))
  | [], x, p, q => by simp [layK, nszL]
  | t :: r, x, p, q => by
    have := layK_snoc r x (p + 2 + t.nsz) q
    have e : p + 2 + t.nsz + nszL r + 2 * r.length = p + (t.nsz + nszL r) + 2 * (r.length + 1) := by omega
    rw [e] at this
    simp only [List.cons_append, layK, nszL, List.length_cons, List.append_assoc, this]
theorem layA_snoc : ∀ (l : List Tr) (x : Tr) (p q : Nat), layA (l ++ [x]) p q = layK l p q ++ x.lay (p + nszL l + 2 * l.length)
  | [], x, p, q => by simp [layK, layA, nszL]
  | t :: r, x, p, q => by
    have := layA_snoc r x (p + 2 + t.nsz) q
    have e : p + 2 + t.nsz + nszL r + 2 * r.length = p + (t.nsz + nszL r) + 2 * (r.length + 1) := by omega
    rw [e] at this
    have hn : (r ++ [x]).isEmpty = false := by cases r <;> rfl
    simp only [List.cons_append, layK, layA, nszL, List.length_cons, List.append_assoc, this, hn, Bool.false_eq_true, if_false]
theorem layK_len : ∀ (l : List Tr), (∀ x ∈ l, ∀ p, (x.lay p).length = x.nsz) → ∀ p q, (layK l p q).length = nszL l + 2 * l.length
  | [], _, p, q => by simp [layK, nszL]
  | t :: r, h, p, q => by
    have := layK_len r (fun x hx => h x (List.mem_cons_of_mem _ hx)) (p + 2 + t.nsz) q
    simp only [layK, nszL, List.length_cons, List.length_append, h t (List.mem_cons_self ..), this]
    omega

set_option maxHeartbeats 4000000 in
theorem l5Alt_any (l : List Tr) (hne : l ≠ []) (ih : ∀ x ∈ l, LyC x) (hok : ∀ x ∈ l, x.okT = true) (B : Nat → Prop) (v o : Value) (base : Nat) (L : List Nd) (q : Nat) (w : World) (h : Rl w B l v) (hB : ∀ b, B b → b < base) (hbase : base ≤ w.heap.size) (hO : OwnN w base o L)
    (hn : L.length + nszL l + 2 * (l.length - 1) ≤ 1000000) :
    Calls Tryz.prog 53 #[o, v, .int .i64 (q : Int)] w fun e w' => ∃ o', e = .returned o' ∧ OwnN w' base o' (L ++ layA l L.length q) ∧ Nign w w' o o' := by
  obtain ⟨ao, cap, rfl, hl1, hl2, -⟩ := h.len
  unfold maxLen at hl2
  have hpos : 0 < l.length := List.length_pos_iff.2 hne
  obtain ⟨oa, oc, hov, hoc⟩ := hO.lenV
  subst hov
  have HO := Hid.mk hO
  have HR := Hid.mk h
  have HIH := Hid.mk ih
  have HKI := Hid.mk hok
  have HLE := Hid.mk (nszL_le l)
  have HTK := Hid.mk (nszL_take l)
  have HLL : Hid (∀ k p, k ≤ l.length → (layK (l.take k) p q).length = nszL (l.take k) + 2 * k) := fun k p hk => by
    have := layK_len (l.take k) (fun x hx => lay_len x (hok x (List.mem_of_mem_take hx))) p q
    rwa [List.length_take, Nat.min_eq_left hk] at this
  have HST : Hid (∀ k (hk : k < l.length) p, layK (l.take (k + 1)) p q = layK (l.take k) p q ++ (split (p + nszL (l.take k) + 2 * k + 1) (p + nszL (l.take k) + 2 * k + 2 + l[k].nsz) :: (l[k].lay (p + nszL (l.take k) + 2 * k + 1) ++ [split q q]))) := fun k hk p => by
    have := layK_snoc (l.take k) l[k] p q
    rw [List.length_take, Nat.min_eq_left (by omega)] at this
    rw [List.take_succ_eq_append_getElem hk, this]
  have HEN : Hid (∀ k (hk : k < l.length), k + 1 = l.length → ∀ p, layA l p q = layK (l.take k) p q ++ l[k].lay (p + nszL (l.take k) + 2 * k)) := fun k hk he p => by
    have := layA_snoc (l.take k) l[k] p q
    rw [List.length_take, Nat.min_eq_left (by omega), ← List.take_succ_eq_append_getElem hk, he, List.take_length] at this
    exact this
  have H0 : Hid (L = L ++ layK (l.take 0) L.length q) := by show _ = _; rw [List.take_zero, layK, List.append_nil]
  clear hO h ih hok hne
  go_enter Tryz.func53, Tryz.ntmps53
  go_wp2
  go_loopw [0, 7] (fun u i wr => ∃ (k : Nat) (qa : Option Addr) (qc : Nat) (M : List Nd), k + 1 ≤ l.length ∧ i = .int .i64 k ∧ u = .slice qa M.length qc ∧ M.length ≤ qc ∧ Hid (M = L ++ layK (l.take k) L.length q) ∧ Hid (OwnN wr base u M) ∧ Hid (Nign w wr (.slice oa L.length oc) u)) (fun _ i _ => l.length - (intOf i).toNat)
  case atStart => exact ⟨0, oa, oc, L, by omega, rfl, rfl, hoc, H0, HO, Nign.refl _ _⟩
  case round =>
    obtain ⟨k, qa, qc, M, hkl0, rfl, rfl, hMc, HM, HOM, HNM⟩ := hrel
    have HRR := Hid.mk (HNM.out.tree HO.out hB HR.out)
    have hszr := HNM.out.1.size
    have hkl : k < l.length := by omega
    have hle := HLE.out (k + 1)
    have htk := HTK.out k hkl
    have hml : M.length = L.length + nszL (l.take k) + 2 * k := by rw [HM.out, List.length_append, HLL.out k _ (by omega)]; omega
    have hokk := HKI.out l[k] (List.getElem_mem hkl)
    have hihk := HIH.out l[k] (List.getElem_mem hkl)
    obtain ⟨b, off, V, rfl, hel⟩ := HRR.out.elems (by intro hn; rw [hn] at hkl; simp at hkl)
    obtain ⟨⟨c0, c1, c2⟩, hsub, hss⟩ := hel k hkl
    have hi1 : (k : Int) < (l.length : Int) := by omega
    clear H0
    by_cases hkl1 : k + 1 < l.length
    · have hST := HST.out k hkl L.length
      have HS := Hid.mk (l5Size_any l[k] B (V k) wr hsub hss (alt_ok _ hokk) (by omega))
      have hi2 : (k : Int) < (l.length : Int) - 1 := by omega
      obtain ⟨x, hx⟩ : ∃ x, l[k] = x := ⟨_, rfl⟩
      rw [hx] at c0 c1 hsub hss HS hokk hihk hST htk
      have hM5 : M.length + 2 + x.nsz ≤ 1000000 := by omega
      have HNX : Hid (L ++ layK (l.take (k + 1)) L.length q = M ++ (split (M.length + 1) (M.length + 2 + x.nsz) :: (x.lay (M.length + 1) ++ [split q q]))) := by
        show _ = _
        rw [hST, hml, ← List.append_assoc, ← HM.out]
      have HIX := Hid.mk hihk
      have HOK := Hid.mk hokk
      obtain ⟨xn, hxn⟩ : ∃ xn, x.nsz = xn := ⟨_, rfl⟩
      rw [hxn] at HS hM5 HNX
      have HXN := Hid.mk hxn
      have HX := Hid.mk hx
      clear hel hle htk hml hST hokk hihk hsub hss hxn hx
      go_wp2_with fail
      refine HS.out.mono ?_
      rintro e w2 ⟨rfl, hb2⟩
      have hs2 := hb2.size
      have HB2 := Hid.mk hb2
      have HN1 : Hid ((w2.alloc (.cells #[.int .i64 4, .string ⟨#[]⟩, .int .i64 ((M.length : Int) + 1), .int .i64 ((M.length : Int) + 2 + (xn : Int))] 43)).heap[w2.heap.size]? = some (.cells #[.int .i64 4, .string ⟨#[]⟩, .int .i64 ((M.length : Int) + 1), .int .i64 ((M.length : Int) + 2 + (xn : Int))] 43 (0, 0))) := heap_alloc_new _ _
      have BN : Hid (Below wr.heap.size wr (w2.alloc (.cells #[.int .i64 4, .string ⟨#[]⟩, .int .i64 ((M.length : Int) + 1), .int .i64 ((M.length : Int) + 2 + (xn : Int))] 43))) := hb2.alloc hs2 _
      have HO1 := Hid.mk (HOM.out.grow BN.out)
      have HRA := Hid.mk (HRR.out.grow BN.out)
      clear HS hb2 c0 c1 c2
      go_wp2_with (at_builtin; refine wpList_append_n (w0 := wr) rfl _ _ rfl base _ M ⟨4, ⟨#[]⟩, (M.length : Int) + 1, (M.length : Int) + 2 + (xn : Int)⟩ rfl HO1.out _ rfl HN1.out (BN.out.mono (by omega)) (by simp; omega) (by omega) ?_)
      intro v3 w3 hown3 hbel3 hq3 hn3
      have hsz3 : w2.heap.size ≤ w3.heap.size := by first | omega | (have := hq3; simp at this; omega)
      have HR3 := Hid.mk (hn3.tree HO1.out hB HRA.out)
      have HN3 := Hid.mk (HNM.out.trans (hn3.ahead BN.out))
      obtain ⟨b', off', V', hbo, hel⟩ := HR3.out.elems (by intro hn; rw [hn] at hkl; simp at hkl)
      cases hbo
      obtain ⟨⟨c0, c1, c2⟩, hsub, hss⟩ := hel k hkl
      rw [HX.out] at c0 c1 hsub hss
      have HCX := Hid.mk (HIX.out B (V' k) v3 base _ w3 hsub hB (by omega) hown3 hss HOK.out (by rw [HXN.out]; simp; omega))
      obtain ⟨oa3, oc3, hov3, hoc3⟩ := hown3.lenV
      subst hov3
      clear hel hsub hss hown3 hbel3 hq3 hn3 HN1 BN HO1 HRA HR3 HB2 HOM HRR HNM
      generalize hM1 : M ++ [(⟨4, ⟨#[]⟩, (M.length : Int) + 1, (M.length : Int) + 2 + (xn : Int)⟩ : Nd)] = M1 at *
      have HM1 := Hid.mk hM1
      clear hM1
      go_wp2_with fail
      refine HCX.out.mono ?_
      rintro e w4 ⟨o4, rfl, hown4, hn4⟩
      have hsz4 := hn4.1.size
      have HO4 := Hid.mk hown4
      have HN4 := Hid.mk (HN3.out.trans hn4)
      obtain ⟨oa4, oc4, hov4, hoc4⟩ := hown4.lenV
      subst hov4
      have hlen4 : (M1 ++ x.lay M1.length).length ≤ 1000000 := by rw [List.length_append, lay_len x HOK.out, HXN.out, ← HM1.out, List.length_append]; simp; omega
      generalize hP : M1 ++ x.lay M1.length = P at *
      have HP := Hid.mk hP
      clear hP hown4 hn4 HCX HN3 c0 c1 c2
      have HN5 : Hid ((w4.alloc (.cells #[.int .i64 4, .string ⟨#[]⟩, .int .i64 (q : Int), .int .i64 (q : Int)] 43)).heap[w4.heap.size]? = some (.cells #[.int .i64 4, .string ⟨#[]⟩, .int .i64 (q : Int), .int .i64 (q : Int)] 43 (0, 0))) := heap_alloc_new _ _
      have BN : Hid (Below w4.heap.size w4 (w4.alloc (.cells #[.int .i64 4, .string ⟨#[]⟩, .int .i64 (q : Int), .int .i64 (q : Int)] 43))) := (Below.refl _ _).alloc (Nat.le_refl _) _
      have HO5 := Hid.mk (HO4.out.grow BN.out)
      go_wp2_with (at_builtin; refine wpList_append_n (w0 := w4) rfl _ _ rfl base _ P ⟨4, ⟨#[]⟩, (q : Int), (q : Int)⟩ rfl HO5.out _ rfl HN5.out (BN.out.mono (by omega)) (by simp; omega) (by omega) ?_)
      intro v6 w6 hown6 hbel6 hq6 hn6
      have HO6 := Hid.mk hown6
      have HN6 := Hid.mk (HN4.out.trans (hn6.ahead BN.out))
      obtain ⟨oa6, oc6, hov6, hoc6⟩ := hown6.lenV
      subst hov6
      have HNY : Hid (P ++ [(⟨4, ⟨#[]⟩, (q : Int), (q : Int)⟩ : Nd)] = L ++ layK (l.take (k + 1)) L.length q) := by
        show _ = _
        rw [HNX.out, ← HP.out, ← HM1.out, List.append_assoc, List.append_assoc, List.length_append]
        rfl
      generalize P ++ [(⟨4, ⟨#[]⟩, (q : Int), (q : Int)⟩ : Nd)] = P1 at *
      clear hown6 hbel6 hq6 hn6 HN5 BN HO5 HO4 HN4 HP HM1 HNX
      go_wp2
      go_roundw
      case rel => exact ⟨k + 1, oa6, oc6, P1, by omega, by go_num, rfl, hoc6, HNY, HO6, HN6⟩
      case measure => simp [intOf]; omega
    · have he : k + 1 = l.length := by omega
      have hEN := HEN.out k hkl he L.length
      have HCX := Hid.mk (hihk B (V k) _ base M wr hsub hB (by omega) HOM.out hss hokk (by omega))
      have HNX : Hid (M ++ l[k].lay M.length = L ++ layA l L.length q) := by
        show _ = _
        rw [hEN, ← List.append_assoc, ← HM.out, hml]
      have hi2 : ¬ (k : Int) < (l.length : Int) - 1 := by omega
      have hk1 : (l.length : Int) - 1 = (k : Int) := by omega
      generalize l[k] = x at c0 c1 c2 HCX HNX
      clear hel hsub hss hle htk hml hEN hokk hihk HRR HIH HKI HLE HTK HLL HST HEN HM HOM
      go_wp2_with fail
      refine HCX.out.mono ?_
      rintro e w4 ⟨o4, rfl, hown4, hn4⟩
      rw [HNX.out] at hown4
      have HO4 := Hid.mk hown4
      have HN4 := Hid.mk (HNM.out.trans hn4)
      clear hown4 hn4 HCX HNM c0 c1 c2
      go_wp2
      go_ret
      exact ⟨_, rfl, HO4.out, HN4.out⟩
end Go.Proofs.YtapniafhcagogaaGreatDoor

namespace Go.Proofs.YtapniafhcagogaaGreatDoor
open Go.RowKit
set_option maxRecDepth 8000

set_option maxHeartbeats 2000000 in
theorem l5Lay_5 (t : Tr) (hk : t.k = 5) (ih : ∀ x ∈ t.l, LyC x) : LyC t := by
  intro B v o base L w h hB hbase hO hts hok hn
  have halt := alt_ok t hok
  have HC := Hid.mk (l5Size_any t B v)
  have hlay := lay_eq t L.length
  rw [if_neg (by omega), if_neg (by omega), if_neg (by omega), if_neg (by omega), if_pos hk] at hlay
  have hnsz := nsz_eq t
  rw [if_neg (by omega), if_pos hk] at hnsz
  have h2 := okT_two hok (.inr hk)
  rw [← hnsz] at hlay
  have hkids := okT_kids hok
  rw [hlay]
  obtain ⟨ao, cap, rfl, hl1, hl2, -⟩ := h.len
  unfold maxLen at hl2
  have X0 := Hid.mk (Bz3.new w (.int .i64 t.k) (.string t.s) (.slice ao t.l.length cap))
  have A0 : Hid (Below w.heap.size w (w.alloc (.cells #[.int .i64 t.k, .string t.s, .slice ao t.l.length cap] 26))) := (Below.refl _ _).alloc (Nat.le_refl _) _
  have HC1 := Hid.mk (HC.out _ (h.grow A0.out) hts halt (by omega))
  have HO := Hid.mk hO
  have HR := Hid.mk h
  obtain ⟨oa, oc, hov, hoc⟩ := hO.lenV
  subst hov
  have HOW : Hid (∀ g, (Value.slice oa L.length oc).ownBlock = some g → g < w.heap.size) := fun g hg => (hO.own hg).2
  rw [hk] at X0 A0 HC1 ⊢
  have HIH := Hid.mk ih
  have HKI := Hid.mk hkids
  obtain ⟨l, hl⟩ : ∃ l, t.l = l := ⟨_, rfl⟩
  rw [hl] at X0 HIH HKI HR hnsz hl1 A0 HC1 h2 ⊢
  generalize t.s = ts at *
  generalize t.nsz = N at *
  obtain ⟨q, hq⟩ : ∃ q : Nat, L.length + N = q := ⟨_, rfl⟩
  have HEQ : Hid ((q : Int) = (L.length : Int) + (N : Int)) := by show _ = _; omega
  rw [hq]
  have HNS : Hid (L.length + nszL l + 2 * (l.length - 1) ≤ 1000000) := by show _ ≤ _; omega
  clear hlay hO h HC hk halt hok ih hkids hl hnsz hq
  go_enter Tryz.func26, Tryz.ntmps26
  have x0 := X0.out.c0
  have x1 := X0.out.c1
  have x2 := X0.out.c2
  go_wp2_with fail
  refine HC1.out.mono ?_
  rintro e w1 ⟨rfl, hb1⟩
  have HX1 := Hid.mk (X0.out.grow hb1)
  have HB1 := Hid.mk (A0.out.trans (hb1.mono A0.out.size))
  have y0 := HX1.out.c0
  have y2 := HX1.out.c2
  have hsz := HB1.out.size
  clear x0 x1 x2 X0 HC1 hb1 A0
  have HO1 := Hid.mk (HO.out.grow HB1.out)
  have HR1 := Hid.mk (HR.out.grow HB1.out)
  clear HO HR
  have HCX := Hid.mk (l5Alt_any l (by intro e; rw [e] at h2; simp at h2) HIH.out HKI.out B _ _ base L q w1 HR1.out hB (by omega) HO1.out HNS.out)
  rw [HEQ.out] at HCX
  clear HIH HKI HR1 HO1 HOW
  go_wp2_with fail
  refine HCX.out.mono ?_
  rintro e w4 ⟨o4, rfl, hown4, hn4⟩
  have HO4 := Hid.mk hown4
  have HN4 := Hid.mk (hn4.ahead HB1.out)
  clear hown4 hn4 HCX y0 y2 HX1
  go_wp2
  go_ret
  exact ⟨_, rfl, HO4.out, HN4.out⟩

/-- l5Lay of the model: a right part is laid behind the nodes. -/
theorem l5Lay_any : ∀ t : Tr, LyC t := Tr.ind fun t ih => by
  intro B v o base L w h hB hbase hO hts hok hn
  rcases okT_kinds hok with hk | hk | hk | hk | hk | hk | hk | hk | hk | hk | hk
  · exact l5Lay_1 t hk B v o base L w h hB hbase hO hts hok hn
  · exact l5Lay_2 t hk B v o base L w h hB hbase hO hts hok hn
  · exact l5Lay_3 t hk B v o base L w h hB hbase hO hts hok hn
  · exact l5Lay_4 t hk ih B v o base L w h hB hbase hO hts hok hn
  · exact l5Lay_5 t hk ih B v o base L w h hB hbase hO hts hok hn
  · exact l5Lay_6 t hk ih B v o base L w h hB hbase hO hts hok hn
  · exact l5Lay_7 t hk ih B v o base L w h hB hbase hO hts hok hn
  · exact l5Lay_8 t hk ih B v o base L w h hB hbase hO hts hok hn
  · exact l5Lay_9 t hk B v o base L w h hB hbase hO hts hok hn
  · exact l5Lay_10 t hk B v o base L w h hB hbase hO hts hok hn
  · exact l5Lay_11 t hk B v o base L w h hB hbase hO hts hok hn
end Go.Proofs.YtapniafhcagogaaGreatDoor

namespace Go.Proofs.YtapniafhcagogaaGreatDoor
open Go.RowKit
set_option maxRecDepth 8000

def RoomC (f : Nat) : Prop := ∀ (t : Tr) (B : Nat → Prop) (v : Value) (w : World) (r : Int), Rl w B t.l v → t.s.size ≤ maxLen → 0 ≤ r → r ≤ 60 →
  Calls Tryz.prog 33 #[rx t.k t.s v, .int .i64 (f : Int), .int .i64 r, .func (.func 34) #[] #[], .func (.func 35) #[] #[]] w fun e w' => e = .returned (.int .i64 (roomF f t r)) ∧ Below w.heap.size w w'

theorem ret_i {a b : Int} (h : a = b) : Ending.returned (.int .i64 a) = .returned (.int .i64 b) := by rw [h]

theorem rexParts_any (k : Int) (s : ByteArray) (v : Value) (w : World) (hv : ∃ ao n cap, v = .slice ao n cap) :
    Calls Tryz.prog 35 #[rx k s v] w fun e w' => e = .returned v ∧ Below w.heap.size w w' := by
  obtain ⟨ao, n, cap, rfl⟩ := hv
  go_enter Tryz.func35, Tryz.ntmps35
  go_wp2
  go_ret
  exact ⟨rfl, (Below.refl _ _).alloc (Nat.le_refl _) _⟩

theorem room_zero : RoomC 0 := by
  intro t B v w r h hs h0 h1
  obtain ⟨ao, cap, rfl, hl1, hl2, hl3⟩ := h.len
  obtain ⟨k, hk⟩ : ∃ k, t.k = k := ⟨_, rfl⟩
  obtain ⟨s, hsn⟩ : ∃ s, t.s = s := ⟨_, rfl⟩
  have HR : Hid (roomF 0 t r = -1) := rfl
  rw [hk, hsn]
  clear h
  go_enter Tryz.func33, Tryz.ntmps33
  go_wp2
  go_ret
  exact ⟨ret_i HR.out.symm, (Below.refl _ _).alloc (Nat.le_refl _) _⟩

set_option maxHeartbeats 1000000 in
theorem room_succ (f : Nat) (hf : f ≤ 5) (ih : RoomC f) : RoomC (f + 1) := by
  intro t B v w r h hs h0 h1
  have HNB := Hid.mk (fun (w' : World) (hb : Below w.heap.size w w') => implNode_any t B v w' (h.grow hb) hs)
  have HE : Hid (roomF (f + 1) t r = if r = 0 ∨ nodeB t = false then -1 else t.l.foldl (roomG (roomF f)) (r - 1)) := rfl
  obtain ⟨R, hR⟩ : ∃ R, roomF (f + 1) t r = R := ⟨_, rfl⟩
  obtain ⟨nb, hnb⟩ : ∃ nb, nodeB t = nb := ⟨_, rfl⟩
  obtain ⟨k, hk⟩ : ∃ k, t.k = k := ⟨_, rfl⟩
  obtain ⟨s, hsn⟩ : ∃ s, t.s = s := ⟨_, rfl⟩
  obtain ⟨l, hln⟩ : ∃ l, t.l = l := ⟨_, rfl⟩
  rw [hk, hsn, hnb] at HNB
  rw [hR, hnb, hln] at HE
  rw [hln] at h
  rw [hk, hsn, hR]
  clear hR hnb hk hsn hln hs
  obtain ⟨ao, cap, rfl, hl1, hl2, hl3⟩ := h.len
  have hm : cap ≤ 9223372036854775807 := by unfold maxLen at hl2; omega
  have HH := Hid.mk h
  have HI := Hid.mk ih
  clear ih h hl2
  have B0 : Below w.heap.size w (w.alloc (.cells #[.int .i64 k, .string s, .slice ao l.length cap] 26)) := (Below.refl _ _).alloc (Nat.le_refl _) _
  obtain ⟨d, hd⟩ : ∃ d : Int, ((f + 1 : Nat) : Int) = d := ⟨_, rfl⟩
  rw [hd]
  have hd6 : (d == 0) = false := beq_eq_false_iff_ne.2 (by omega)
  have hd7 : d - 1 = (f : Int) := by omega
  have hd8 : 0 ≤ d := by omega
  have hd9 : d ≤ 6 := by omega
  have HPT := Hid.mk (fun w' => rexParts_any k s (.slice ao l.length cap) w' ⟨_, _, _, rfl⟩)
  by_cases hr0 : r = 0
  · subst hr0
    have HR : Hid (R = -1) := by show _ = _; rw [HE.out, if_pos (Or.inl rfl)]
    clear HE HNB HI HH
    go_enter Tryz.func33, Tryz.ntmps33
    go_wp2
    go_ret
    exact ⟨ret_i HR.out.symm, B0⟩
  have hrb : (r == 0) = false := beq_eq_false_iff_ne.2 hr0
  cases nb with
  | false =>
    have HR : Hid (R = -1) := by show _ = _; rw [HE.out, if_pos (Or.inr rfl)]
    clear HE HI HH
    go_enter Tryz.func33, Tryz.ntmps33
    go_wp2_with fail
    refine (HNB.out _ B0).mono ?_
    rintro e w1 ⟨rfl, hb1⟩
    have B1 := B0.trans (hb1.mono (by simp))
    clear B0 hb1 HNB
    go_wp2
    go_ret
    exact ⟨ret_i HR.out.symm, B1⟩
  | true =>
    have HR : Hid (R = l.foldl (roomG (roomF f)) (r - 1)) := by show _ = _; rw [HE.out, if_neg (by simpa using hr0)]
    clear HE
    go_enter Tryz.func33, Tryz.ntmps33
    go_wp2_with fail
    refine (HNB.out _ B0).mono ?_
    rintro e w1 ⟨rfl, hb1⟩
    have B1 := B0.trans (hb1.mono (by simp))
    have hc1 := fun o => hb1.cell (p := ⟨w.heap.size, o, none⟩) (by simp)
    have hs1 := hb1.size
    simp at hs1
    clear B0 hb1 HNB
    have hr1 : 0 ≤ r - 1 := by omega
    go_wp2_with fail
    refine (HPT.out _).mono ?_
    rintro e w2 ⟨rfl, hb2⟩
    have B2 := B1.trans (hb2.mono B1.size)
    clear B1 hb2 hc1 HPT
    go_wp2
    go_loopw [2, 31] (fun q i wr => ∃ (k : Nat) (m : Int), k ≤ l.length ∧ i = .int .i64 k ∧ q = .int .i64 m ∧ 0 ≤ m ∧ m ≤ 60 ∧ Hid (m = (l.take k).foldl (roomG (roomF f)) (r - 1)) ∧ Below w.heap.size w wr) (fun _ i _ => l.length - (intOf i).toNat)
    case atStart => exact ⟨0, r - 1, Nat.zero_le _, rfl, rfl, by omega, by omega, rfl, B2⟩
    case round =>
      obtain ⟨k, m, hk, rfl, rfl, m0, m1, Hm, hbel⟩ := hrel
      clear B2
      by_cases hkl : k < l.length
      · obtain ⟨b, off, V, rfl, hel⟩ := HH.out.elems (by intro hn; rw [hn] at hkl; simp at hkl)
        obtain ⟨h3, hsub, hss⟩ := hel k hkl
        have HT := Hid.mk (room_take (f := f) l k (r - 1) hkl)
        have HC := Hid.mk (room_cut (f := f) l (k + 1) (r - 1))
        obtain ⟨t, ht⟩ : ∃ t, l[k] = t := ⟨_, rfl⟩
        rw [ht] at h3 hsub hss HT
        clear ht hel
        obtain ⟨c0, c1, c2⟩ := h3.kept (w' := wr) (hbel.block b (World.block_lt_of_cell? w _ h3.1))
        have hs1 := hbel.size
        have HCall := Hid.mk (fun (w' : World) (hb : Below w.heap.size w w') => HI.out t B (V k) w' m (hsub.grow hb) hss m0 m1)
        obtain ⟨bd0, bd1⟩ := room_bd f t m m0
        obtain ⟨av, cv, hv, -, -, -⟩ := hsub.len
        rw [hv] at c2 HCall
        obtain ⟨tk, htk⟩ : ∃ tk, t.k = tk := ⟨_, rfl⟩
        obtain ⟨ts, hts⟩ : ∃ ts, t.s = ts := ⟨_, rfl⟩
        rw [htk, hts] at HCall
        rw [htk] at c0
        rw [hts] at c1
        obtain ⟨q, hq⟩ : ∃ q, roomF f t m = q := ⟨_, rfl⟩
        rw [hq] at bd0 bd1 HCall
        have HQ : Hid ((l.take (k + 1)).foldl (roomG (roomF f)) (r - 1) = q) := by
          show _ = _
          rw [HT.out, ← Hm.out, roomG, if_neg (by omega), hq]
        have hi1 : (k : Int) < (l.length : Int) := by omega
        have B2 := hbel.alloc hs1 (.cells #[.int .i64 tk, .string ts, .slice av t.l.length cv] 26)
        clear hsub hss h3 hv HT Hm hq htk hts hbel
        by_cases hq0 : q < 0
        · have HF : Hid (R = -1) := by show _ = _; rw [HR.out]; exact HC.out (by rw [HQ.out]; omega)
          clear HQ HC
          go_wp2_with fail
          refine (HCall.out _ B2).mono ?_
          rintro e w2 ⟨rfl, hb2⟩
          have B3 := B2.trans (hb2.mono (by simp; omega))
          clear B2 hb2 HCall
          go_wp2
          go_ret
          exact ⟨ret_i HF.out.symm, B3⟩
        · clear HC
          go_wp2_with fail
          refine (HCall.out _ B2).mono ?_
          rintro e w2 ⟨rfl, hb2⟩
          have B3 := B2.trans (hb2.mono (by simp; omega))
          clear B2 hb2 HCall
          go_wp2
          go_roundw
          case rel => exact ⟨k + 1, q, by omega, by go_num, rfl, by omega, by omega, HQ.out.symm, B3⟩
          case measure => simp [intOf]; omega
      · have e : k = l.length := by omega
        subst e
        have HF : Hid (R = m) := by show _ = _; rw [HR.out, Hm.out, List.take_length]
        clear Hm
        go_wp2
        go_ret
        exact ⟨ret_i HF.out.symm, hbel⟩

theorem implRexOk_any (t : Tr) (B : Nat → Prop) (v : Value) (w : World) (h : Rl w B t.l v) (hs : t.s.size ≤ maxLen) :
    Calls Tryz.prog 15 #[rx t.k t.s v] w fun e w' => e = .returned (.bool (okR t)) ∧ Below w.heap.size w w' := by
  have R6 : RoomC 6 := room_succ 5 (by omega) (room_succ 4 (by omega) (room_succ 3 (by omega) (room_succ 2 (by omega) (room_succ 1 (by omega) (room_succ 0 (by omega) room_zero)))))
  have HC := Hid.mk (fun (w' : World) (hb : Below w.heap.size w w') => R6 t B v w' 60 (h.grow hb) hs (by omega) (by omega))
  have HO := Hid.mk (okR_room t)
  obtain ⟨b, hb⟩ : ∃ b, okR t = b := ⟨_, rfl⟩
  obtain ⟨q, hq⟩ : ∃ q, roomF 6 t 60 = q := ⟨_, rfl⟩
  obtain ⟨k, hk⟩ : ∃ k, t.k = k := ⟨_, rfl⟩
  obtain ⟨s, hsn⟩ : ∃ s, t.s = s := ⟨_, rfl⟩
  rw [hk, hsn, hq] at HC
  rw [hb, hq] at HO
  rw [hk, hsn, hb]
  obtain ⟨ao, cap, rfl, hl1, hl2, hl3⟩ := h.len
  have B0 : Below w.heap.size w (w.alloc (.cells #[.int .i64 k, .string s, .slice ao t.l.length cap] 26)) := (Below.refl _ _).alloc (Nat.le_refl _) _
  clear h hk hsn hq hb R6 hl2
  go_enter Tryz.func15, Tryz.ntmps15
  go_wp2_with fail
  refine (HC.out _ B0).mono ?_
  rintro e w1 ⟨rfl, hb1⟩
  have B1 := B0.trans (hb1.mono (by simp))
  clear B0 hb1 HC
  go_wp2
  go_ret
  exact ⟨ret_b HO.out, B1⟩
end Go.Proofs.YtapniafhcagogaaGreatDoor

namespace Go.Proofs.YtapniafhcagogaaGreatDoor
open Go.RowKit
set_option maxRecDepth 8000

attribute [local go_sem] Oper.semAt_some

theorem canMatch_any (t : Tr) (B : Nat → Prop) (v : Value) (s : ByteArray) (w : World) (h : Rl w B t.l v) (hs : t.s.size ≤ maxLen) :
    Calls Tryz.prog 46 #[rx t.k t.s v, .string s] w fun e w' => e = .returned (.bool (decide (s.size ≤ 200) && okR t)) ∧ Below w.heap.size w w' := by
  have HK := Hid.mk (fun (w' : World) (hb : Below w.heap.size w w') => implRexOk_any t B v w' (h.grow hb) hs)
  obtain ⟨ao, cap, rfl, -⟩ := h.len
  have A0 : Below w.heap.size w (w.alloc (.cells #[.int .i64 t.k, .string t.s, .slice ao t.l.length cap] 26)) := (Below.refl _ _).alloc (Nat.le_refl _) _
  have RB : Below w.heap.size w w := Below.refl _ _
  clear h hs
  by_cases h2 : s.size ≤ 200
  · have hi : ((s.size : Nat) : Int) ≤ 200 := by omega
    rw [decide_eq_true h2, Bool.true_and]
    clear h2
    go_enter Tryz.func46, Tryz.ntmps46
    go_wp2_with fail
    refine (HK.out _ (by first | exact RB | exact A0)).mono ?_
    rintro e w1 ⟨rfl, hb1⟩
    have B1 : Below w.heap.size w w1 := by first | exact hb1 | exact A0.trans (hb1.mono (by simp))
    clear hb1 HK A0 RB
    go_wp2
    go_ret
    exact ⟨rfl, B1⟩
  · have hi : ¬ ((s.size : Nat) : Int) ≤ 200 := by omega
    rw [decide_eq_false h2, Bool.false_and]
    clear h2 HK
    go_enter Tryz.func46, Tryz.ntmps46
    go_wp2
    go_ret
    exact ⟨rfl, by first | exact RB | exact A0⟩
end Go.Proofs.YtapniafhcagogaaGreatDoor

namespace Go.Proofs.YtapniafhcagogaaGreatDoor
open Go.RowKit
end Go.Proofs.YtapniafhcagogaaGreatDoor

namespace Go.Proofs.YtapniafhcagogaaGreatDoor
open Go.RowKit
set_option maxRecDepth 8000

theorem specRexOk_any (t : Tr) (B : Nat → Prop) (v : Value) (w : World) (h : Rl w B t.l v) (hs : t.s.size ≤ maxLen) :
    Calls Tryz.prog 25 #[rx t.k t.s v] w fun e w' => e = .returned (.bool (okR t)) ∧ Below w.heap.size w w' := by
  have R6 : PartsC 6 := parts_succ 5 (by omega) (parts_succ 4 (by omega) (parts_succ 3 (by omega) (parts_succ 2 (by omega) (parts_succ 1 (by omega) (parts_succ 0 (by omega) parts_zero)))))
  have HC := Hid.mk (fun (w' : World) (hb : Below w.heap.size w w') => R6 t B v w' (h.grow hb))
  have HK := Hid.mk (fun (w' : World) (hb : Below w.heap.size w w') => specOk_any t B v w' (h.grow hb) hs)
  have HO : Hid (okR t = (decide (partsF 6 t ≤ 60) && t.okT)) := rfl
  obtain ⟨b, hb⟩ : ∃ b, okR t = b := ⟨_, rfl⟩
  obtain ⟨q, hq⟩ : ∃ q, partsF 6 t = q := ⟨_, rfl⟩
  obtain ⟨o, ho⟩ : ∃ o, t.okT = o := ⟨_, rfl⟩
  obtain ⟨k, hk⟩ : ∃ k, t.k = k := ⟨_, rfl⟩
  obtain ⟨s, hsn⟩ : ∃ s, t.s = s := ⟨_, rfl⟩
  rw [hk, hsn, hq] at HC
  rw [hk, hsn, ho] at HK
  rw [hb, hq, ho] at HO
  rw [hk, hsn, hb]
  obtain ⟨ao, cap, rfl, hl1, hl2, hl3⟩ := h.len
  have B0 : Below w.heap.size w (w.alloc (.cells #[.int .i64 k, .string s, .slice ao t.l.length cap] 26)) := (Below.refl _ _).alloc (Nat.le_refl _) _
  clear h hk hsn hq hb ho R6 hl2
  by_cases h60 : q ≤ 60
  · have h60' : (q : Int) ≤ 60 := by omega
    have HR : Hid (o = b) := by show _ = _; rw [HO.out, decide_eq_true h60]; rfl
    clear HO
    go_enter Tryz.func25, Tryz.ntmps25
    go_wp2_with fail
    refine (HC.out _ B0).mono ?_
    rintro e w1 ⟨rfl, hb1⟩
    have B1 := B0.trans (hb1.mono (by simp))
    have hc1 := fun o => hb1.cell (p := ⟨w.heap.size, o, none⟩) (by simp)
    have hs1 := hb1.size
    simp at hs1
    clear B0 hb1 HC
    go_wp2_with fail
    refine (HK.out _ B1).mono ?_
    rintro e w2 ⟨rfl, hb2⟩
    have B2 := B1.trans (hb2.mono (by omega))
    clear B1 hb2 HK hc1
    go_wp2
    go_ret
    exact ⟨ret_b HR.out, B2⟩
  · have h60' : ¬ (q : Int) ≤ 60 := by omega
    have HR : Hid (false = b) := by show _ = _; rw [HO.out, decide_eq_false h60]; rfl
    clear HO HK
    go_enter Tryz.func25, Tryz.ntmps25
    go_wp2_with fail
    refine (HC.out _ B0).mono ?_
    rintro e w1 ⟨rfl, hb1⟩
    have B1 := B0.trans (hb1.mono (by simp))
    clear B0 hb1 HC
    go_wp2
    go_ret
    exact ⟨ret_b HR.out, B1⟩

end Go.Proofs.YtapniafhcagogaaGreatDoor

namespace Go.Proofs.YtapniafhcagogaaGreatDoor
open Go.RowKit
set_option maxRecDepth 8000

/-- What marks leave: all but the block g is as it was. -/
structure Mkd (g : Nat) (w w' : World) : Prop where
  os : w'.os = w.os
  tape : w'.tape = w.tape
  output : w'.output = w.output
  size : w.heap.size ≤ w'.heap.size
  block : ∀ b, b < w.heap.size → b ≠ g → w'.heap[b]? = w.heap[b]?
theorem Mkd.refl (g : Nat) (w : World) : Mkd g w w := ⟨rfl, rfl, rfl, Nat.le_refl _, fun _ _ _ => rfl⟩
theorem Mkd.trans {g : Nat} {a b c : World} (h : Mkd g a b) (k : Mkd g b c) : Mkd g a c :=
  ⟨k.os.trans h.os, k.tape.trans h.tape, k.output.trans h.output, Nat.le_trans h.size k.size, fun x hx hn => (k.block x (Nat.lt_of_lt_of_le hx h.size) hn).trans (h.block x hx hn)⟩
theorem Mkd.below {g : Nat} {a b : World} (h : Below a.heap.size a b) : Mkd g a b := ⟨h.os, h.tape, h.output, h.size, fun x hx _ => h.block x hx⟩
theorem Mkd.set {g o : Nat} {a b : World} (h : Mkd g a b) (v : Value) : Mkd g a (b.setCell ⟨g, o, none⟩ v) := by
  have q : Below g b (b.setCell ⟨g, o, none⟩ v) := (Below.refl g b).setCell (p := ⟨g, o, none⟩) (Nat.le_refl g) v
  exact ⟨q.os.trans h.os, q.tape.trans h.tape, q.output.trans h.output, Nat.le_trans h.size q.size, fun x hx hn => by rw [heap_setCell_other _ ⟨g, o, none⟩ x _ hn]; exact h.block x hx hn⟩
theorem Mkd.low {g n : Nat} {a b : World} (h : Mkd g a b) (hn : n ≤ g) (hs : n ≤ a.heap.size) : Below n a b := ⟨h.os, h.tape, h.output, h.size, fun x hx => h.block x (by omega) (by omega)⟩
end Go.Proofs.YtapniafhcagogaaGreatDoor

namespace Go.Proofs.YtapniafhcagogaaGreatDoor
open Go.RowKit
set_option maxRecDepth 8000

theorem ndCells_k : ∀ (L : List Nd) (i : Nat) (x : Int) (h : i < L.length), (ndCells L).set (i * 4) (.int .i64 x) = ndCells (L.set i { L[i] with k := x })
  | y :: r, 0, x, _ => rfl
  | y :: r, i + 1, x, h => by
    have ih := ndCells_k r i x (by simpa using h)
    rw [show (i + 1) * 4 = i * 4 + 4 by omega]
    simp only [ndCells, List.set_cons_succ, List.getElem_cons_succ]
    rw [ih]
theorem ndCells_s : ∀ (L : List Nd) (i : Nat) (x : ByteArray) (h : i < L.length), (ndCells L).set (i * 4 + 1) (.string x) = ndCells (L.set i { L[i] with s := x })
  | y :: r, 0, x, _ => rfl
  | y :: r, i + 1, x, h => by
    have ih := ndCells_s r i x (by simpa using h)
    rw [show (i + 1) * 4 + 1 = i * 4 + 1 + 4 by omega]
    simp only [ndCells, List.set_cons_succ, List.getElem_cons_succ]
    rw [ih]
theorem ndCells_a : ∀ (L : List Nd) (i : Nat) (x : Int) (h : i < L.length), (ndCells L).set (i * 4 + 2) (.int .i64 x) = ndCells (L.set i { L[i] with a := x })
  | y :: r, 0, x, _ => rfl
  | y :: r, i + 1, x, h => by
    have ih := ndCells_a r i x (by simpa using h)
    rw [show (i + 1) * 4 + 2 = i * 4 + 2 + 4 by omega]
    simp only [ndCells, List.set_cons_succ, List.getElem_cons_succ]
    rw [ih]
theorem ndCells_b : ∀ (L : List Nd) (i : Nat) (x : Int) (h : i < L.length), (ndCells L).set (i * 4 + 3) (.int .i64 x) = ndCells (L.set i { L[i] with b := x })
  | y :: r, 0, x, _ => rfl
  | y :: r, i + 1, x, h => by
    have ih := ndCells_b r i x (by simpa using h)
    rw [show (i + 1) * 4 + 3 = i * 4 + 3 + 4 by omega]
    simp only [ndCells, List.set_cons_succ, List.getElem_cons_succ]
    rw [ih]
/-- A block of that many nodes, whatever they are. -/
def NBn (w : World) (g n : Nat) : Prop := ∃ M, NB w g M ∧ M.length = n
theorem NBn.kept {w w' : World} {g n : Nat} (h : NBn w g n) (hh : w'.heap[g]? = w.heap[g]?) : NBn w' g n := by
  obtain ⟨M, h1, h2⟩ := h
  exact ⟨M, h1.kept hh, h2⟩
theorem NBn.at4 {w : World} {g n : Nat} (h : NBn w g n) {i : Nat} (hi : i < n) : ∃ x : Nd, At4 w g (i * 4) x := by
  obtain ⟨M, h1, rfl⟩ := h
  exact ⟨_, h1.at4 hi⟩
theorem NBn.fr {w : World} {g n : Nat} (h : NBn w g n) (o : Nat) : w.frozen? ⟨g, o, none⟩ = false := by
  obtain ⟨M, h1, rfl⟩ := h
  exact h1.fr o
theorem NBn.stK {w : World} {g n i : Nat} (h : NBn w g n) (hi : i < n) (x : Int) : NBn (w.setCell ⟨g, i * 4, none⟩ (.int .i64 x)) g n := by
  obtain ⟨M, h1, rfl⟩ := h
  refine ⟨M.set i { M[i] with k := x }, ?_, by simp⟩
  unfold NB
  rw [heap_setCell_same w g (i * 4) _ _ _ h1, ← ndCells_k M i x hi]
  simp only [List.setIfInBounds_toArray]
theorem NBn.stS {w : World} {g n i : Nat} (h : NBn w g n) (hi : i < n) (x : ByteArray) : NBn (w.setCell ⟨g, i * 4 + 1, none⟩ (.string x)) g n := by
  obtain ⟨M, h1, rfl⟩ := h
  refine ⟨M.set i { M[i] with s := x }, ?_, by simp⟩
  unfold NB
  rw [heap_setCell_same w g (i * 4 + 1) _ _ _ h1, ← ndCells_s M i x hi]
  simp only [List.setIfInBounds_toArray]
theorem NBn.stA {w : World} {g n i : Nat} (h : NBn w g n) (hi : i < n) (x : Int) : NBn (w.setCell ⟨g, i * 4 + 2, none⟩ (.int .i64 x)) g n := by
  obtain ⟨M, h1, rfl⟩ := h
  refine ⟨M.set i { M[i] with a := x }, ?_, by simp⟩
  unfold NB
  rw [heap_setCell_same w g (i * 4 + 2) _ _ _ h1, ← ndCells_a M i x hi]
  simp only [List.setIfInBounds_toArray]
theorem NBn.stB {w : World} {g n i : Nat} (h : NBn w g n) (hi : i < n) (x : Int) : NBn (w.setCell ⟨g, i * 4 + 3, none⟩ (.int .i64 x)) g n := by
  obtain ⟨M, h1, rfl⟩ := h
  refine ⟨M.set i { M[i] with b := x }, ?_, by simp⟩
  unfold NB
  rw [heap_setCell_same w g (i * 4 + 3) _ _ _ h1, ← ndCells_b M i x hi]
  simp only [List.setIfInBounds_toArray]
theorem NBn.lt {w : World} {g n : Nat} (h : NBn w g n) : g < w.heap.size := by
  obtain ⟨M, h1, rfl⟩ := h
  exact h1.lt

end Go.Proofs.YtapniafhcagogaaGreatDoor

namespace Go.Proofs.YtapniafhcagogaaGreatDoor
open Go.RowKit

/-- A slice that reads these numbers, its block (where there are any) below N. -/
def IzN (w : World) (N : Nat) (v : Value) (xs : List Int) : Prop := Iz w v xs ∧ (xs ≠ [] → ∀ b off len cap, v = .slice (some ⟨b, off, none⟩) len cap → b < N)
theorem IzN.of {w : World} {v : Value} {xs : List Int} (h : Iz w v xs) : IzN w w.heap.size v xs := by
  refine ⟨h, fun hn b off len cap e => ?_⟩
  obtain ⟨ao, cap', rfl, _, _, _, h5⟩ := h
  obtain ⟨b', off', rfl, h7⟩ := h5 hn
  simp only [Value.slice.injEq, Option.some.injEq, Addr.mk.injEq, and_true] at e
  obtain ⟨⟨rfl, rfl⟩, _⟩ := e
  exact World.block_lt_of_cell? w _ (h7 0 (List.length_pos_iff.2 hn))
theorem IzN.keep {w w' : World} {N : Nat} {v : Value} {xs : List Int} (h : IzN w N v xs) (hk : ∀ b, b < N → w'.heap[b]? = w.heap[b]?) : IzN w' N v xs := by
  obtain ⟨⟨ao, cap, h1, h2, h3, h4, h5⟩, h6⟩ := h
  refine ⟨⟨ao, cap, h1, h2, h3, h4, fun hn => ?_⟩, h6⟩
  obtain ⟨b, off, rfl, h7⟩ := h5 hn
  refine ⟨b, off, rfl, fun k hk' => ?_⟩
  rw [World.cell?_of_block (w := w) (hk b (h6 hn _ _ _ _ h1))]
  exact h7 k hk'
/-- Where it lies. -/
theorem OwnZ.lies {w : World} {base : Nat} {v : Value} {xs : List Int} (h : OwnZ w base v xs) : ∀ g, v.ownBlock = some g → base ≤ g ∧ g < w.heap.size := by
  intro g hg
  rcases h.2 with ⟨rfl, _⟩ | ⟨g', cap, cur, rfl, hb, hgb, _⟩
  · simp [Value.ownBlock] at hg
  · obtain rfl : g' = g := by simpa [Value.ownBlock] using hg
    exact ⟨hb, (Array.getElem?_eq_some_iff.1 hgb).1⟩
theorem OwnZ.keep {w w' : World} {base : Nat} {v : Value} {xs : List Int} (h : OwnZ w base v xs) (hk : ∀ g, base ≤ g → g < w.heap.size → w'.heap[g]? = w.heap[g]?) : OwnZ w' base v xs := by
  rcases h.2 with ⟨rfl, h0⟩ | ⟨g, cap, cur, rfl, hb, hg, rest⟩
  · exact ⟨h.1, .inl ⟨rfl, h0⟩⟩
  · exact ⟨h.1, .inr ⟨g, cap, cur, rfl, hb, (hk g hb (Array.getElem?_eq_some_iff.1 hg).1).trans hg, rest⟩⟩
/-- A box with one value. -/
def Bx1 (w : World) (b : Nat) (t : TypeId) (x : Value) : Prop := w.heap[b]? = some (.cells #[x] t (0, 0))
theorem Bx1.c0 {w : World} {b : Nat} {t : TypeId} {x : Value} (h : Bx1 w b t x) : w.cell? ⟨b, 0, none⟩ = some x := by rw [cell_of_row w b 0 _ _ (0, 0) h]; rfl
theorem Bx1.lt {w : World} {b : Nat} {t : TypeId} {x : Value} (h : Bx1 w b t x) : b < w.heap.size := by unfold Bx1 at h; exact (Array.getElem?_eq_some_iff.1 h).1
theorem Bx1.new (w : World) (t : TypeId) (x : Value) : Bx1 (w.alloc (.cells #[x] t)) w.heap.size t x := heap_alloc_new w _
theorem Bx1.kept {w w' : World} {b : Nat} {t : TypeId} {x : Value} (h : Bx1 w b t x) (hh : w'.heap[b]? = w.heap[b]?) : Bx1 w' b t x := by unfold Bx1; rw [hh]; exact h
theorem Bx1.grow {w w' : World} {b : Nat} {t : TypeId} {x : Value} (h : Bx1 w b t x) (hk : Below w.heap.size w w') : Bx1 w' b t x := h.kept (hk.block b h.lt)
end Go.Proofs.YtapniafhcagogaaGreatDoor

namespace Go.Proofs.YtapniafhcagogaaGreatDoor
open Go.RowKit
set_option maxRecDepth 8000

def doneN : Nd := ⟨7, noS, 0, 0⟩
/-- The nodes of an expression's machine. -/
def nfN (t : Tr) : List Nd := if okR t = true then t.lay 0 ++ [doneN] else []
theorem nsz_cnt (t : Tr) : t.nsz + 2 ≤ 4 * t.cnt := by
  refine Tr.ind (P := fun t => t.nsz + 2 ≤ 4 * t.cnt) ?_ t
  intro t ih
  have hl : nszL t.l + 2 * t.l.length ≤ 4 * cntL t.l := by
    revert ih
    generalize t.l = l
    intro ih
    induction l with
    | nil => simp [nszL, cntL]
    | cons x r ihr =>
      have h1 := ih x (List.mem_cons_self ..)
      have h2 := ihr fun y hy => ih y (List.mem_cons_of_mem _ hy)
      simp only [nszL, cntL, List.length_cons]
      omega
  rw [cnt_eq, nsz_eq]
  split
  · omega
  · split
    · omega
    · split
      · omega
      · omega
theorem okR_tree {t : Tr} (h : okR t = true) : t.okT = true := by
  unfold okR at h
  rw [Bool.and_eq_true] at h
  exact h.2
theorem okR_nsz {t : Tr} (h : okR t = true) : t.nsz ≤ 238 := by
  unfold okR at h
  rw [Bool.and_eq_true] at h
  have h1 := ((parts_spec 6 t).1.1 (by simpa using h.1)).2
  have h2 := nsz_cnt t
  omega

theorem OwnN.nil (w : World) (base : Nat) : OwnN w base (.slice none 0 0) [] := ⟨rfl, .inl ⟨rfl, rfl⟩⟩

theorem Below.nign {w w1 w2 : World} {base : Nat} {o o' : Value} {L : List Nd} (h : Below base w w1) (ho : OwnN w1 base o L) (k : Nign w1 w2 o o') (hb : base ≤ w1.heap.size) : Below base w w2 :=
  h.grown k.1 hb fun g hg => (World.ownsRow.lt ho g hg).1

theorem OwnN.setLow {w : World} {base : Nat} {v : Value} {L : List Nd} (h : OwnN w base v L) {a : Addr} (ha : a.block < base) (x : Value) : OwnN (w.setCell a x) base v L := by
  refine ⟨h.1, ?_⟩
  rcases h.2 with h' | ⟨g, cap, cur, e, hb, hg, rest⟩
  · exact Or.inl h'
  · exact Or.inr ⟨g, cap, cur, e, hb, by rw [heap_setCell_other _ a g _ (by omega)]; exact hg, rest⟩
theorem Bx1.put {w : World} {b : Nat} {t : TypeId} {x : Value} (h : Bx1 w b t x) (y : Value) : Bx1 (w.setCell ⟨b, 0, none⟩ y) b t y := by
  unfold Bx1
  rw [heap_setCell_same w b 0 _ _ y h]
  rfl

set_option maxHeartbeats 2000000 in
theorem specNfaOf_any (t : Tr) (B : Nat → Prop) (v : Value) (w : World) (h : Rl w B t.l v) (hs : t.s.size ≤ maxLen) :
    Calls Tryz.prog 11 #[rx t.k t.s v] w fun e w' => ∃ u, e = .returned (.agg #[u]) ∧ OwnN w' w.heap.size u (nfN t) ∧ Below w.heap.size w w' := by
  have HC := Hid.mk (fun (w' : World) (hb : Below w.heap.size w w') => specRexOk_any t B v w' (h.grow hb) hs)
  have HL : Hid (∀ (w1 : World), Below w.heap.size w w1 → ∀ (w' : World) (o : Value), Below w1.heap.size w1 w' → OwnN w' w1.heap.size o [] → okR t = true → Calls Tryz.prog 26 #[o, rx t.k t.s v] w' fun e w'' => ∃ o', e = .returned o' ∧ OwnN w'' w1.heap.size o' (t.lay 0) ∧ Nign w' w'' o o') := fun w1 h1 w' o hb ho hk => by
    have h2 := okR_nsz hk
    have hb2 := h1.trans (hb.mono h1.size)
    exact l5Lay_any t (fun b => b < w.heap.size) v o w1.heap.size [] w' (((h.imp (C := fun b => b < w.heap.size) fun _ _ hb => hb)).kept fun b hb' _ => hb2.block b hb') (fun b h => by have := h1.size; omega) hb.size ho hs (okR_tree hk) (by simp; omega)
  have HE : Hid (okR t = true → nfN t = t.lay 0 ++ [doneN]) := fun h => by unfold nfN; rw [if_pos h]
  have HE2 : Hid (okR t = false → nfN t = []) := fun h => by unfold nfN; rw [h]; rfl
  have HN : Hid (okR t = true → (t.lay 0).length ≤ 238) := fun h => by rw [lay_len t (okR_tree h)]; exact okR_nsz h
  generalize nfN t = R at *
  generalize t.lay 0 = Y at *
  obtain ⟨o, ho⟩ : ∃ o, okR t = o := ⟨_, rfl⟩
  obtain ⟨k, hk⟩ : ∃ k, t.k = k := ⟨_, rfl⟩
  obtain ⟨s, hsn⟩ : ∃ s, t.s = s := ⟨_, rfl⟩
  rw [hk, hsn, ho] at HC HL
  rw [ho] at HE HE2 HN
  rw [hk, hsn]
  obtain ⟨ao, cap, rfl, hl1, hl2, hl3⟩ := h.len
  generalize t.l.length = tl at *
  have X0 := Hid.mk ((Bz3.new w (.int .i64 k) (.string s) (.slice ao tl cap)).grow ((Below.refl (w.alloc (.cells #[.int .i64 k, .string s, .slice ao tl cap] 26)).heap.size _).alloc (Nat.le_refl _) (.cells #[.slice none 0 0] 31)))
  have Y0 := Hid.mk (Bx1.new (w.alloc (.cells #[.int .i64 k, .string s, .slice ao tl cap] 26)) 31 (.slice none 0 0))
  rw [World.size_alloc] at Y0
  have B0 : Below w.heap.size w ((w.alloc (.cells #[.int .i64 k, .string s, .slice ao tl cap] 26)).alloc (.cells #[.slice none 0 0] 31)) := ((Below.refl _ _).alloc (Nat.le_refl _) _).alloc (by simp) _
  clear h hk hsn ho hl2 hs
  cases o with
  | false =>
    have HR := Hid.mk (HE2.out rfl)
    clear HL HE HN HE2
    go_enter Tryz.func11, Tryz.ntmps11
    go_wp2_with fail
    refine (HC.out _ B0).mono ?_
    rintro e w1 ⟨rfl, hb1⟩
    have B1 := B0.trans (hb1.mono (by simp; omega))
    have Y1 := Hid.mk (Y0.out.grow hb1)
    have y1 := Y1.out.c0
    have f1 := frozen_of_row w1 _ 0 _ _ Y1.out
    have hlt1 := Y1.out.lt
    clear B0 hb1 HC X0 Y0
    go_wp2
    refine bodyPost_ret (v := .agg #[.slice none 0 0]) ?_ rfl ⟨_, rfl, ?_, ?_⟩
    · have z1 := (Y1.out.put (.slice none 0 0)).c0
      simp [results, Tryz.results11, go_sem, z1]
    · rw [HR.out]; exact OwnN.nil _ _
    · exact B1.setCell (by simp) _
  | true =>
    have HR := Hid.mk (HE.out rfl)
    have hlen := HN.out rfl
    clear HE HN HE2
    go_enter Tryz.func11, Tryz.ntmps11
    go_wp2_with fail
    refine (HC.out _ B0).mono ?_
    rintro e w1 ⟨rfl, hb1⟩
    have B1 := B0.trans (hb1.mono (by simp; omega))
    have X1 := Hid.mk (X0.out.grow hb1)
    have hbh := Hid.mk hb1
    have hs1 := B1.size
    clear B0 hb1 HC X0
    have Y1 := Hid.mk (Y0.out.grow hbh.out)
    have HL := Hid.mk (HL.out w1 B1)
    clear Y0 hbh
    have b2 : Hid (Below w1.heap.size w1 (w1.alloc (.cells #[] 43))) := (Below.refl _ _).alloc (Nat.le_refl _) _
    have O2 : Hid (OwnN (w1.alloc (.cells #[] 43)) w1.heap.size (.slice (some ⟨w1.heap.size, 0, none⟩) 0 0) []) := World.ownsRow_lit w1 #[] 0 (Nat.le_refl _) (by decide) rfl
    have X2 := Hid.mk (X1.out.grow b2.out)
    have x0 := X2.out.c0
    have x1 := X2.out.c1
    have x2 := X2.out.c2
    have hx := X1.out.lt
    have HL2 := Hid.mk (HL.out _ _ b2.out O2.out trivial)
    clear HL
    go_wp2_with fail
    refine HL2.out.mono ?_
    rintro e w3 ⟨o3, rfl, ho3, hn3⟩
    have b3 := Hid.mk (Below.nign b2.out O2.out hn3 (by simp))
    have hs3 := b3.out.size
    have O3 := Hid.mk ho3
    obtain ⟨oa, oc, hov, hoc⟩ := ho3.lenV
    subst hov
    clear HL2 ho3 hn3 b2 O2 x0 x1 x2 X1 X2
    generalize hY : Y.length = yl at *
    have HY := Hid.mk hY
    clear hY
    have HN1 : Hid ((w3.alloc (.cells #[.int .i64 7, .string ⟨#[]⟩, .int .i64 0, .int .i64 0] 43)).heap[w3.heap.size]? = some (.cells #[.int .i64 7, .string ⟨#[]⟩, .int .i64 0, .int .i64 0] 43 (0, 0))) := heap_alloc_new _ _
    have BA : Hid (Below w1.heap.size w1 (w3.alloc (.cells #[.int .i64 7, .string ⟨#[]⟩, .int .i64 0, .int .i64 0] 43))) := b3.out.alloc hs3 _
    have HO1 := Hid.mk (O3.out.grow ((Below.refl w3.heap.size w3).alloc (Nat.le_refl _) (.cells #[.int .i64 7, .string ⟨#[]⟩, .int .i64 0, .int .i64 0] 43)))
    go_wp2_with (at_builtin; refine wpList_append_n (w0 := w1) rfl _ _ rfl w1.heap.size _ Y doneN rfl HO1.out _ rfl HN1.out BA.out (by simp; omega) (by rw [HY.out]; omega) ?_)
    intro v4 w4 hown4 hbel4 hq hn4
    have O4 := Hid.mk hown4
    have Y4 := Hid.mk (Y1.out.grow hbel4)
    have Q4 := Hid.mk hbel4
    have y4 := Y4.out.c0
    have f4 := frozen_of_row w4 _ 0 _ _ Y4.out
    obtain ⟨va, vc, hv4, -⟩ := hown4.lenV
    subst hv4
    have hb1 := Y1.out.lt
    clear hown4 hbel4 hq hn4 HN1 BA HO1 O3 b3 Y1
    go_wp2
    have z1 := (Y4.out.put (.slice va (Y ++ [doneN]).length vc)).c0
    refine bodyPost_ret (v := .agg #[.slice va (Y ++ [doneN]).length vc]) ?_ rfl ⟨_, rfl, ?_, ?_⟩
    · simp [results, Tryz.results11, go_sem]
      simp at z1
      simp [z1, go_sem]
    · rw [HR.out]; exact (OwnN.setLow O4.out hb1 _).mono (by omega)
    · exact (B1.trans (Q4.out.mono (by omega))).setCell (by simp) _
end Go.Proofs.YtapniafhcagogaaGreatDoor

namespace Go.Proofs.YtapniafhcagogaaGreatDoor
open Go.RowKit
set_option maxRecDepth 8000

theorem mem_mkL {M : Nat → Bool} {n : Nat} {z : Int} : z ∈ mkL M n ↔ ∃ j, j < n ∧ M j = true ∧ z = (j : Int) := by
  unfold mkL
  rw [List.mem_map]
  constructor
  · rintro ⟨j, hj, rfl⟩
    rw [List.mem_filter, List.mem_range] at hj
    exact ⟨j, hj.1, hj.2, rfl⟩
  · rintro ⟨j, h1, h2, rfl⟩
    exact ⟨j, List.mem_filter.2 ⟨List.mem_range.2 h1, h2⟩, rfl⟩
theorem mem_rchL {N : List Nd} {b e : Bool} {S : Nat → Prop} {j : Nat} : (j : Int) ∈ rchL N b e S ↔ j < N.length ∧ Rch N b e S j := by
  unfold rchL
  rw [mem_mkL]
  constructor
  · rintro ⟨q, h1, h2, h3⟩
    obtain rfl : j = q := by omega
    exact ⟨h1, by simpa using h2⟩
  · rintro ⟨h1, h2⟩
    exact ⟨j, h1, by simpa using h2, rfl⟩
theorem mem_runL {N : List Nd} {s : ByteArray} {i j : Nat} : (j : Int) ∈ runL N s i ↔ j < N.length ∧ Rch N ((i : Int) == 0) ((i : Int) == (s.size : Int)) (seedS N (goOn N s (runL N s) i)) j := by
  rw [runL_eq]
  exact mem_rchL
theorem run_zero {N : List Nd} {s : ByteArray} (hN : 0 < N.length) (i : Nat) : ((0 : Nat) : Int) ∈ runL N s i := mem_runL.2 ⟨hN, .start ⟨.inr rfl, hN⟩⟩
theorem ep_fol {N : List Nd} {s : ByteArray} {i p q : Nat} (h : Ep N (i = 0) (i = s.size) p q) : (q : Int) ∈ fol ((i : Int) == 0) ((i : Int) == (s.size : Int)) (ndAt N p) := by
  obtain ⟨x, hx, h⟩ := h
  have e : ndAt N p = x := by simp [ndAt, List.getD, hx]
  rw [e]
  unfold fol
  rcases h with ⟨h1, h2⟩ | ⟨h1, h2, h3⟩ | ⟨h1, h2, h3⟩
  · rw [if_pos h1]
    rcases h2 with h2 | h2 <;> simp [h2]
  · rw [if_neg (by omega), if_pos (.inl ⟨h1, by simp [h2]⟩)]
    simp [h3]
  · rw [if_neg (by omega), if_pos (.inr ⟨h1, by simp [h2]⟩)]
    simp [h3]
theorem fol_ep {N : List Nd} {s : ByteArray} {i p q : Nat} (hp : p < N.length) (h : (q : Int) ∈ fol ((i : Int) == 0) ((i : Int) == (s.size : Int)) (ndAt N p)) : Ep N (i = 0) (i = s.size) p q := by
  rw [ndAt_eq hp] at h
  refine ⟨N[p], List.getElem?_eq_getElem hp, ?_⟩
  unfold fol at h
  split at h
  · rename_i h4
    refine .inl ⟨h4, ?_⟩
    simp at h
    rcases h with h | h
    · exact .inl h.symm
    · exact .inr h.symm
  · split at h
    · rename_i h5
      simp at h
      rcases h5 with ⟨h5, h6⟩ | ⟨h5, h6⟩
      · exact .inr (.inl ⟨h5, by simp at h6; omega, h.symm⟩)
      · exact .inr (.inr ⟨h5, by simp at h6; omega, h.symm⟩)
    · cases h
theorem tk_eq (x : Nd) (c : Int) : tkNd x c = tkN x c := by
  unfold tkNd tkN tkI hasB
  rw [any_txt, List.any_beq']
theorem run_byte {N : List Nd} {s : ByteArray} {i p q : Nat} (h : (p : Int) ∈ runL N s i) {x : Nd} (hx : N[p]? = some x) (ht : tkN x (ba s i) = true) (hq : x.a = q) (hqN : q < N.length) : (q : Int) ∈ runL N s (i + 1) := by
  refine mem_runL.2 ⟨hqN, .start ⟨.inl ?_, hqN⟩⟩
  obtain ⟨m, hm, he⟩ := List.getElem_of_mem h
  have e : ndAt N ((runL N s i)[m]).toNat = x := by rw [he]; simp [ndAt, List.getD, hx]
  exact ⟨m, hm, hm, by rw [e, tk_eq]; exact ht, by rw [e]; exact hq⟩
/-- Where a path leads is reached. -/
theorem run_path {N : List Nd} {s : ByteArray} (hok : okNfa N = true) {i p j q : Nat} (hp : Pa N s i p j q) : (p : Int) ∈ runL N s i → (q : Int) ∈ runL N s j := by
  induction hp with
  | refl i p => exact id
  | @step i p j q j' q' hs _ ih =>
    intro h
    apply ih
    have hpN := (mem_runL.1 h).1
    rcases hs with ⟨rfl, he⟩ | ⟨rfl, hi, x, hx, ht, hq⟩
    · have hf := ep_fol he
      have := fol_in hok hpN hf
      exact mem_runL.2 ⟨by omega, .step (mem_runL.1 h).2 hf⟩
    · have hxx : N[p] = x := by rw [List.getElem?_eq_getElem hpN] at hx; exact Option.some.inj hx
      have hn := okNfa_node hok hpN
      rw [hxx] at hn
      have hqN : q < N.length := by
        have hk : x.k = 1 ∨ x.k = 2 ∨ x.k = 3 := by
          unfold tkN tkI at ht
          rw [Bool.or_eq_true, Bool.and_eq_true, Bool.or_eq_true] at ht
          rcases ht with h | ⟨h | h, _⟩
          · exact .inr (.inl (by simpa using h))
          · exact .inl (by simpa using h)
          · exact .inr (.inr (by simpa using h))
        unfold okNd at hn
        have hpl : plB x.a N.length = true := by
          rcases hk with hk | hk | hk
          · rw [if_pos hk] at hn; simp only [Bool.and_eq_true] at hn; exact hn.1.2
          · rw [if_neg (by omega), if_neg (by omega), if_pos (.inl hk)] at hn; simp only [Bool.and_eq_true] at hn; exact hn.1.2
          · rw [if_neg (by omega), if_pos hk] at hn; simp only [Bool.and_eq_true] at hn; exact hn.1.2
        unfold plB at hpl
        simp at hpl
        omega
      exact run_byte h hx ht hq hqN
/-- What is reached a path leads to. -/
theorem path_run {N : List Nd} {s : ByteArray} : ∀ i, i ≤ s.size → ∀ q : Nat, (q : Int) ∈ runL N s i → ∃ i0, i0 ≤ i ∧ Pa N s i0 0 i q := by
  intro i
  induction i with
  | zero =>
    intro _ q h
    have hr := (mem_runL.1 h).2
    have key : ∀ {j}, Rch N (((0 : Nat) : Int) == 0) (((0 : Nat) : Int) == (s.size : Int)) (seedS N (goOn N s (runL N s) 0)) j → j < N.length → ∃ i0, i0 ≤ 0 ∧ Pa N s i0 0 0 j := by
      intro j hr
      induction hr with
      | start hs =>
        intro _
        rcases hs.1 with hs | rfl
        · exact hs.elim
        · exact ⟨0, Nat.le_refl _, .refl _ _⟩
      | @step p q hp hf ih =>
        intro _
        have hpN : p < N.length := by
          rcases Nat.lt_or_ge p N.length with h | h
          · exact h
          · exfalso
            have e : ndAt N p = default := by simp [ndAt, List.getD, h]
            rw [e] at hf
            unfold fol at hf
            rw [if_neg (by decide), if_neg (by rintro (⟨h, _⟩ | ⟨h, _⟩) <;> exact absurd h (by decide))] at hf
            cases hf
        obtain ⟨i0, h0, hpa⟩ := ih hpN
        exact ⟨i0, h0, hpa.trans (Pa.one (.inl ⟨rfl, fol_ep hpN hf⟩))⟩
    exact key hr (mem_runL.1 h).1
  | succ i ih =>
    intro hi q h
    have hr := (mem_runL.1 h).2
    have key : ∀ {j}, Rch N (((i + 1 : Nat) : Int) == 0) (((i + 1 : Nat) : Int) == (s.size : Int)) (seedS N (goOn N s (runL N s) (i + 1))) j → j < N.length → ∃ i0, i0 ≤ i + 1 ∧ Pa N s i0 0 (i + 1) j := by
      intro j hr
      induction hr with
      | @start j hs =>
        intro _
        rcases hs.1 with hs | rfl
        · obtain ⟨m, _, hm, ht, ha⟩ := hs
          have hin := runL_in N s i _ (List.getElem_mem hm)
          obtain ⟨p, hp⟩ : ∃ p : Nat, (runL N s i)[m] = (p : Int) := ⟨((runL N s i)[m]).toNat, by omega⟩
          have hmem : (p : Int) ∈ runL N s i := by rw [← hp]; exact List.getElem_mem hm
          obtain ⟨i0, h0, hpa⟩ := ih (by omega) p hmem
          have hpN : p < N.length := (mem_runL.1 hmem).1
          rw [hp, Int.toNat_natCast, ndAt_eq hpN] at ht ha
          refine ⟨i0, by omega, hpa.trans (Pa.one (.inr ⟨rfl, by omega, N[p], List.getElem?_eq_getElem hpN, ?_, ha⟩))⟩
          rw [← tk_eq]
          exact ht
        · exact ⟨i + 1, Nat.le_refl _, .refl _ _⟩
      | @step p q hp hf ih2 =>
        intro _
        have hpN : p < N.length := by
          rcases Nat.lt_or_ge p N.length with h | h
          · exact h
          · exfalso
            have e : ndAt N p = default := by simp [ndAt, List.getD, h]
            rw [e] at hf
            unfold fol at hf
            rw [if_neg (by decide), if_neg (by rintro (⟨h, _⟩ | ⟨h, _⟩) <;> exact absurd h (by decide))] at hf
            cases hf
        obtain ⟨i0, h0, hpa⟩ := ih2 hpN
        exact ⟨i0, h0, hpa.trans (Pa.one (.inl ⟨rfl, fol_ep hpN hf⟩))⟩
    exact key hr (mem_runL.1 h).1

/-- A node of a machine of n, not the last one. -/
def Gd (n : Nat) (x : Nd) : Prop := okNd x n = true ∧ x.k ≠ 7
theorem gd_split {n a b : Nat} (ha : a < n) (hb : b < n) : Gd n (split a b) := by
  refine ⟨?_, by show (4 : Int) ≠ 7; decide⟩
  have e : (noS : ByteArray).size = 0 := rfl
  simp [okNd, split, plB, e]
  omega
theorem gd_none {n a : Nat} (k : Int) (hk : k = 2 ∨ k = 5 ∨ k = 6) (ha : a < n) : Gd n ⟨k, noS, (a : Nat), 0⟩ := by
  have e : (noS : ByteArray).size = 0 := rfl
  refine ⟨?_, by show k ≠ 7; omega⟩
  unfold okNd
  rw [if_neg (by show k ≠ 1; omega), if_neg (by show k ≠ 3; omega), if_pos hk]
  simp [plB, e]
  omega
theorem lay_good (n : Nat) (t : Tr) : t.okT = true → ∀ p, p + t.nsz < n → ∀ x ∈ t.lay p, Gd n x := by
  refine Tr.ind (P := fun t => t.okT = true → ∀ p, p + t.nsz < n → ∀ x ∈ t.lay p, Gd n x) ?_ t
  intro t ih hok p hp x hx
  have hk := okT_kids hok
  have hL : ∀ (l : List Tr), (∀ y ∈ l, y ∈ t.l) → ∀ p, p + nszL l < n → ∀ x ∈ layL l p, Gd n x := by
    intro l
    induction l with
    | nil => intro _ p _ x hx; rw [layL] at hx; cases hx
    | cons y r ihr =>
      intro hm p hp x hx
      rw [nszL] at hp
      rw [layL, List.mem_append] at hx
      rcases hx with hx | hx
      · exact ih y (hm y (List.mem_cons_self ..)) (hk y (hm y (List.mem_cons_self ..))) p (by omega) x hx
      · exact ihr (fun z hz => hm z (List.mem_cons_of_mem _ hz)) _ (by omega) x hx
  have hA : ∀ (l : List Tr), (∀ y ∈ l, y ∈ t.l) → ∀ p q, p + (nszL l + 2 * (l.length - 1)) ≤ q → q < n → ∀ x ∈ layA l p q, Gd n x := by
    intro l
    induction l with
    | nil => intro _ p q _ _ x hx; rw [layA] at hx; cases hx
    | cons y r ihr =>
      intro hm p q hpq hq x hx
      have hy := ih y (hm y (List.mem_cons_self ..)) (hk y (hm y (List.mem_cons_self ..)))
      rw [nszL, List.length_cons] at hpq
      rw [layA] at hx
      split at hx
      · exact hy p (by omega) x hx
      · rename_i hr
        have hr1 : 1 ≤ r.length := by
          cases r with
          | nil => simp at hr
          | cons _ _ => simp
        rw [List.mem_cons, List.mem_append, List.mem_cons] at hx
        rcases hx with rfl | hx | rfl | hx
        · exact gd_split (by omega) (by omega)
        · exact hy _ (by omega) x hx
        · exact gd_split hq hq
        · exact ihr (fun z hz => hm z (List.mem_cons_of_mem _ hz)) _ _ (by omega) hq x hx
  have hnsz := nsz_eq t
  rw [lay_eq] at hx
  have hnode : t.k = 1 ∨ t.k = 3 → 1 ≤ t.s.size ∧ (t.k = 1 → t.s.size = 1) := by
    intro h
    rw [okT_eq, Bool.and_eq_true] at hok
    have h2 := hok.2
    unfold nodeB at h2
    rcases h with h | h
    · rw [if_pos h] at h2
      unfold setB at h2
      simp only [Bool.and_eq_true, decide_eq_true_eq] at h2
      omega
    · rw [if_neg (by omega), if_pos h] at h2
      unfold setB at h2
      simp only [Bool.and_eq_true, decide_eq_true_eq] at h2
      omega
  split at hx
  · rename_i h1
    obtain rfl := List.mem_singleton.1 hx
    rw [if_neg (by omega), if_neg (by omega), if_neg (by omega)] at hnsz
    have := (hnode (.inl h1)).2 h1
    refine ⟨?_, by show (1 : Int) ≠ 7; decide⟩
    simp [okNd, plB, this]
    omega
  split at hx
  · rename_i h2
    obtain rfl := List.mem_singleton.1 hx
    rw [if_neg (by omega), if_neg (by omega), if_neg (by omega)] at hnsz
    exact gd_none 2 (.inl rfl) (by omega)
  split at hx
  · rename_i h3
    obtain rfl := List.mem_singleton.1 hx
    rw [if_neg (by omega), if_neg (by omega), if_neg (by omega)] at hnsz
    have := (hnode (.inr h3)).1
    refine ⟨?_, by show (3 : Int) ≠ 7; decide⟩
    have hz : (t.s.size != 0) = true := by rw [bne_iff_ne]; omega
    have hpl : plB ((p + 1 : Nat) : Int) n = true := by unfold plB; simp; omega
    show ((t.s.size != 0) && plB ((p + 1 : Nat) : Int) n && decide ((0 : Int) = 0)) = true
    rw [hz, hpl]
    rfl
  split at hx
  · rename_i h4
    rw [if_pos (.inr h4)] at hnsz
    exact hL t.l (fun _ h => h) p (by omega) x hx
  split at hx
  · rename_i h5
    rw [if_neg (by omega), if_pos h5] at hnsz
    exact hA t.l (fun _ h => h) p _ (Nat.le_refl _) (by omega) x hx
  split at hx
  · rename_i h6
    rw [if_neg (by omega), if_neg (by omega), if_pos h6] at hnsz
    rw [List.mem_cons, List.mem_append, List.mem_singleton] at hx
    rcases hx with rfl | hx | rfl
    · exact gd_split (by omega) (by omega)
    · exact hL t.l (fun _ h => h) _ (by omega) x hx
    · exact gd_split (by omega) (by omega)
  split at hx
  · rename_i h7
    rw [if_neg (by omega), if_neg (by omega), if_neg (by omega)] at hnsz
    rw [List.mem_append, List.mem_singleton] at hx
    rcases hx with hx | rfl
    · exact hL t.l (fun _ h => h) _ (by omega) x hx
    · exact gd_split (by omega) (by omega)
  split at hx
  · rename_i h8
    rw [if_neg (by omega), if_neg (by omega), if_neg (by omega)] at hnsz
    rw [List.mem_cons] at hx
    rcases hx with rfl | hx
    · exact gd_split (by omega) (by omega)
    · exact hL t.l (fun _ h => h) _ (by omega) x hx
  split at hx
  · rename_i h10
    obtain rfl := List.mem_singleton.1 hx
    rw [if_neg (by omega), if_neg (by omega), if_neg (by omega)] at hnsz
    exact gd_none 5 (.inr (.inl rfl)) (by omega)
  split at hx
  · rename_i h11
    obtain rfl := List.mem_singleton.1 hx
    rw [if_neg (by omega), if_neg (by omega), if_neg (by omega)] at hnsz
    exact gd_none 6 (.inr (.inr rfl)) (by omega)
  · cases hx

theorem nfN_eq {t : Tr} (h : okR t = true) : nfN t = nfaL t := by unfold nfN; rw [if_pos h]; rfl
theorem nfN_ok {t : Tr} (h : okR t = true) : okNfa (nfN t) = true := by
  have hok := okR_tree h
  have hl := nfaL_len hok
  have hn := okR_nsz h
  rw [nfN_eq h]
  unfold okNfa
  have h1 : decide (1 ≤ (nfaL t).length) = true := by rw [hl]; simp
  have h2 : decide ((nfaL t).length ≤ 300) = true := by rw [hl]; simp; omega
  have h3 : ((nfaL t).getLast?.map Nd.k) = some 7 := by unfold nfaL; simp
  rw [h1, h2, decide_eq_true h3]
  simp only [Bool.true_and, List.all_eq_true]
  intro x hx
  rw [hl]
  unfold nfaL at hx
  rw [List.mem_append, List.mem_singleton] at hx
  rcases hx with hx | rfl
  · exact (lay_good _ t hok 0 (by omega) x hx).1
  · rfl
/-- It is over just at the last node. -/
theorem nfN_done {t : Tr} (h : okR t = true) (s : ByteArray) (i : Nat) : dnB (nfN t) (runL (nfN t) s i) = true ↔ ((t.nsz : Nat) : Int) ∈ runL (nfN t) s i := by
  have hok := okR_tree h
  have hl := nfaL_len hok
  rw [nfN_eq h]
  unfold dnB
  rw [List.any_eq_true]
  constructor
  · rintro ⟨z, hz, hk⟩
    have hin := runL_in (nfaL t) s i z hz
    obtain ⟨q, rfl⟩ : ∃ q : Nat, z = (q : Int) := ⟨z.toNat, by omega⟩
    rw [hl] at hin
    by_cases hq : q = t.nsz
    · rw [← hq]; exact hz
    · exfalso
      have hlt : q < (t.lay 0).length := by rw [lay_len t hok]; omega
      have e : (nfaL t).getD (q : Int).toNat default = (t.lay 0)[q] := by
        rw [Int.toNat_natCast]
        unfold nfaL
        rw [List.getD, List.getElem?_append_left hlt, List.getElem?_eq_getElem hlt]
        rfl
      rw [e] at hk
      exact (lay_good (t.nsz + 1) t hok 0 (by omega) _ (List.getElem_mem hlt)).2 (by simpa using hk)
  · intro hz
    refine ⟨_, hz, ?_⟩
    rw [Int.toNat_natCast, List.getD, nfaL_last hok]
    rfl
/-- The machine matches just where the expression ends somewhere. -/
theorem nfN_match {t : Tr} (h : okR t = true) (s : ByteArray) : mtB (nfN t) s = true ↔ ∃ i j, i ≤ j ∧ j ≤ s.size ∧ t.endM s i j = true := by
  have hok := okR_tree h
  have hl := nfaL_len hok
  have ho := nfN_ok h
  have e := nfN_eq h
  constructor
  · intro hm
    unfold mtB at hm
    rw [ho, Bool.true_and, List.any_eq_true] at hm
    obtain ⟨j, hj, hd⟩ := hm
    have hj' := List.mem_range.1 hj
    have := (nfN_done h s j).1 hd
    rw [e] at this
    obtain ⟨i, hi, hp⟩ := path_run j (by omega) t.nsz this
    exact ⟨i, j, hi, by omega, (nfa_paths hok s i j (by omega)).1 hp⟩
  · rintro ⟨i, j, hi, hj, hE⟩
    have hp := (nfa_paths hok s i j (by omega)).2 hE
    refine mtB_yes ho hj ((nfN_done h s j).2 ?_)
    rw [e]
    exact run_path (by rw [← e]; exact ho) hp (run_zero (by rw [hl]; omega) i)
end Go.Proofs.YtapniafhcagogaaGreatDoor
