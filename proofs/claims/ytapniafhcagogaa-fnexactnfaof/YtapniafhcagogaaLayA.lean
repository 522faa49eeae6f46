/- l5Lay of the model, whole. -/
import Derived.Test.YtapniafhcagogaaLayH
namespace Go.Proofs.Ytapniafhcagogaa
open Go.RowKit
set_option maxRecDepth 8000

set_option maxHeartbeats 2000000 in
theorem l5Lay_5 (t : Tr) (hk : t.k = 5) (ih : ∀ x ∈ t.l, LyC x) : LyC t := by
  intro B v o base L w h hB hbase hO hts hok hn
  have halt := alt_ok t hok
  have HC := Hid.mk (l5Size_any t B v)
  have hlay := lay_eq t L.length
  rw [if_neg (by omega), if_neg (by omega), if_neg (by omega), if_neg (by omega), if_pos hk] at hlay
  have hnsz := nsz_eq t
  rw [if_neg (by omega), if_pos hk] at hnsz
  have h2 := okT_two hok (.inr hk)
  rw [← hnsz] at hlay
  have hkids := okT_kids hok
  rw [hlay]
  obtain ⟨ao, cap, rfl, hl1, hl2, -⟩ := h.len
  unfold maxLen at hl2
  have X0 := Hid.mk (Bz3.new w (.int .i64 t.k) (.string t.s) (.slice ao t.l.length cap))
  have A0 : Hid (Below w.heap.size w (w.alloc (.cells #[.int .i64 t.k, .string t.s, .slice ao t.l.length cap] 26))) := (Below.refl _ _).alloc (Nat.le_refl _) _
  have HC1 := Hid.mk (HC.out _ (h.grow A0.out) hts halt (by omega))
  have HO := Hid.mk hO
  have HR := Hid.mk h
  obtain ⟨oa, oc, hov, hoc⟩ := hO.lenV
  subst hov
  have HOW : Hid (∀ g, (Value.slice oa L.length oc).ownBlock = some g → g < w.heap.size) := fun g hg => (hO.own hg).2
  rw [hk] at X0 A0 HC1 ⊢
  have HIH := Hid.mk ih
  have HKI := Hid.mk hkids
  obtain ⟨l, hl⟩ : ∃ l, t.l = l := ⟨_, rfl⟩
  rw [hl] at X0 HIH HKI HR hnsz hl1 A0 HC1 h2 ⊢
  generalize t.s = ts at *
  generalize t.nsz = N at *
  obtain ⟨q, hq⟩ : ∃ q : Nat, L.length + N = q := ⟨_, rfl⟩
  have HEQ : Hid ((q : Int) = (L.length : Int) + (N : Int)) := by show _ = _; omega
  rw [hq]
  have HNS : Hid (L.length + nszL l + 2 * (l.length - 1) ≤ 1000000) := by show _ ≤ _; omega
  clear hlay hO h HC hk halt hok ih hkids hl hnsz hq
  go_enter Try.func48, Try.ntmps48
  have x0 := X0.out.c0
  have x1 := X0.out.c1
  have x2 := X0.out.c2
  go_wp2_with fail
  refine HC1.out.mono ?_
  rintro e w1 ⟨rfl, hb1⟩
  have HX1 := Hid.mk (X0.out.grow hb1)
  have HB1 := Hid.mk (A0.out.trans (hb1.mono A0.out.size))
  have y0 := HX1.out.c0
  have y2 := HX1.out.c2
  have hsz := HB1.out.size
  clear x0 x1 x2 X0 HC1 hb1 A0
  have HO1 := Hid.mk (HO.out.grow HB1.out)
  have HR1 := Hid.mk (HR.out.grow HB1.out)
  clear HO HR
  have HCX := Hid.mk (l5Alt_any l (by intro e; rw [e] at h2; simp at h2) HIH.out HKI.out B _ _ base L q w1 HR1.out hB (by omega) HO1.out HNS.out)
  rw [HEQ.out] at HCX
  clear HIH HKI HR1 HO1 HOW
  go_wp2_with fail
  refine HCX.out.mono ?_
  rintro e w4 ⟨o4, rfl, hown4, hn4⟩
  have HO4 := Hid.mk hown4
  have HN4 := Hid.mk (hn4.ahead HB1.out)
  clear hown4 hn4 HCX y0 y2 HX1
  go_wp2
  go_ret
  exact ⟨_, rfl, HO4.out, HN4.out⟩

/-- l5Lay of the model: a right part is laid behind the nodes. -/
theorem l5Lay_any : ∀ t : Tr, LyC t := Tr.ind fun t ih => by
  intro B v o base L w h hB hbase hO hts hok hn
  rcases okT_kinds hok with hk | hk | hk | hk | hk | hk | hk | hk | hk | hk | hk
  · exact l5Lay_1 t hk B v o base L w h hB hbase hO hts hok hn
  · exact l5Lay_2 t hk B v o base L w h hB hbase hO hts hok hn
  · exact l5Lay_3 t hk B v o base L w h hB hbase hO hts hok hn
  · exact l5Lay_4 t hk ih B v o base L w h hB hbase hO hts hok hn
  · exact l5Lay_5 t hk ih B v o base L w h hB hbase hO hts hok hn
  · exact l5Lay_6 t hk ih B v o base L w h hB hbase hO hts hok hn
  · exact l5Lay_7 t hk ih B v o base L w h hB hbase hO hts hok hn
  · exact l5Lay_8 t hk ih B v o base L w h hB hbase hO hts hok hn
  · exact l5Lay_9 t hk B v o base L w h hB hbase hO hts hok hn
  · exact l5Lay_10 t hk B v o base L w h hB hbase hO hts hok hn
  · exact l5Lay_11 t hk B v o base L w h hB hbase hO hts hok hn
end Go.Proofs.Ytapniafhcagogaa
