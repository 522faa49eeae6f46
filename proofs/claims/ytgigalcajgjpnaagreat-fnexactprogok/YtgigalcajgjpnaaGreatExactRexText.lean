/- The law FnExactRexText walked: at every regular expression the program's RexText answers what the document's model of it answers. -/
import Derived.Test.YtgigalcajgjpnaaGreatRexTextK
import Derived.Test.YtgigalcajgjpnaaGreatRexTextS
namespace Go.Proofs.YtgigalcajgjpnaaGreat
open Go.RowKit
set_option maxRecDepth 8000

theorem implRexText_any (t : Tr) (B : Nat → Prop) (v : Value) (w : World) (h : Rl w B t.l v) (hs : t.s.size ≤ maxLen) :
    Calls Tryz.prog 214 #[rx t.k t.s v] w fun e w' => e = .returned (.string (rexS t)) ∧ Below w.heap.size w w' := by
  have HC := Hid.mk (fun (w' : World) (hb : Below w.heap.size w w') => implRexOk_any t B v w' (h.grow hb) hs)
  have HT : Hid (okR t = true → ∀ (w' : World), Below w.heap.size w w' → Calls Tryz.prog 219 #[.slice none 0 0, rx t.k t.s v] w' fun e w'' => ∃ b', e = .returned b' ∧ Own w'' w'.heap.size b' t.tl ∧ Below w'.heap.size w' w'') := by
    intro ho w' hb
    obtain ⟨i1, i2, i3⟩ := (okR_iff t).1 ho
    have hl := tl_len t i3
    have hg := (h.grow hb).imp (C := fun b => b < w'.heap.size) (fun b _ hb => hb)
    have hown : Own w' w'.heap.size (.slice none 0 0) [] := World.ownsRow_nil _ _ _ _
    refine (app_any t i3 i2 w'.heap.size _ (.slice none 0 0) v [] w' hown (Nat.le_refl _) (by simp; omega) hg (fun k hk => ⟨hk, by simp [Value.ownBlock]⟩)).mono ?_
    rintro e w'' ⟨b', rfl, ho', hn'⟩
    exact ⟨b', rfl, by simpa using ho', hn'.below hown (Nat.le_refl _)⟩
  have HBY := Hid.mk (tl_byte t)
  have HE : Hid (rexS t = if okR t = true then strOf t.tl else ⟨#[]⟩) := rfl
  obtain ⟨R, hR⟩ : ∃ R, rexS t = R := ⟨_, rfl⟩
  obtain ⟨o, ho⟩ : ∃ o, okR t = o := ⟨_, rfl⟩
  obtain ⟨k, hk⟩ : ∃ k, t.k = k := ⟨_, rfl⟩
  obtain ⟨s, hsn⟩ : ∃ s, t.s = s := ⟨_, rfl⟩
  obtain ⟨T, hT⟩ : ∃ T, t.tl = T := ⟨_, rfl⟩
  rw [hk, hsn, ho] at HC
  rw [hk, hsn, hT, ho] at HT
  rw [hR, ho, hT] at HE
  rw [hT] at HBY
  rw [hk, hsn, hR]
  obtain ⟨ao, cap, rfl, hl1, hl2, hl3⟩ := h.len
  have B0 : Below w.heap.size w (w.alloc (.cells #[.int .i64 k, .string s, .slice ao t.l.length cap] 187)) := (Below.refl _ _).alloc (Nat.le_refl _) _
  clear h hk hsn hR ho hl2 hT
  cases o with
  | false =>
    have HR : Hid ((⟨#[]⟩ : ByteArray) = R) := by show _ = _; rw [HE.out]; rfl
    clear HT HE
    go_enter Tryz.func214, Tryz.ntmps214
    go_wp2_with fail
    refine (HC.out _ B0).mono ?_
    rintro e w1 ⟨rfl, hb1⟩
    have B1 := B0.trans (hb1.mono (by simp))
    clear B0 hb1 HC
    go_wp2
    go_ret
    exact ⟨ret_str' HR.out, B1⟩
  | true =>
    have HR : Hid (strOf T = R) := by show _ = _; rw [HE.out]; rfl
    have HT' := Hid.mk (HT.out rfl)
    clear HT HE
    go_enter Tryz.func214, Tryz.ntmps214
    go_wp2_with fail
    refine (HC.out _ B0).mono ?_
    rintro e w1 ⟨rfl, hb1⟩
    have B1 := B0.trans (hb1.mono (by simp))
    have hc1 := fun o => hb1.cell (p := ⟨w.heap.size, o, none⟩) (by simp)
    have hs1 := hb1.size
    simp at hs1
    clear B0 hb1 HC
    go_wp2_with fail
    refine (HT'.out _ B1).mono ?_
    rintro e w2 ⟨b2, rfl, ho2, hb2⟩
    have B2 := B1.trans (hb2.mono (by omega))
    have hcv := run_strOf_any (ho2.bs HBY.out)
    clear B1 hb2 HT' hc1 ho2
    go_wp2
    go_ret
    exact ⟨ret_str' HR.out, B2⟩

end Go.Proofs.YtgigalcajgjpnaaGreat
