/- All lists that wait, held against each other: the program's sameLists over statements. -/
import Derived.Test.YtijpmnenegdmnaaQListsYD
namespace Go.Proofs.Ytijpmnenegdmnaa
open Go.RowKit
set_option maxRecDepth 8000
set_option linter.unusedSimpArgs false

theorem TmY.noOb {w : World} {base : Nat} {D Dx : Nat → Prop} {T0 TN : List (Prr Ex)} {tb : Nat} {ob : Option Nat} {wr : World} (h : TmY w base D Dx T0 TN tb ob wr) : TmY w base D Dx T0 TN tb none wr := by
 obtain ⟨tv, h1, h2, h3, h4, h5, h6, h7, h8⟩ := h
 exact ⟨tv, h1, h2, by simp, h4, fun g hg => (by cases hg), h6, h7, h8⟩

set_option maxHeartbeats 16000000 in
theorem sameListsY_any (W0 : List (Prr St)) (T0 : List (Prr Ex)) (tb : Nat) (v : Value) (w : World) (base : Nat) (D : Nat → Prop) (hown : OwnRY w base v W0) (hD : DkS w D) (hDv : ∀ b, D b → some b ≠ v.ownBlock) (hW : ∀ q ∈ W0, Sl w D q.a q.u ∧ Sl w D q.b q.v)
  (hsz : my W0 + T0.length ≤ 1099511627776) (hbase : base ≤ w.heap.size) (hT : TmY w base D D T0 [] tb v.ownBlock w) :
  Calls Try.prog 40 #[v, .func (.func 39) #[] #[.pointer (some ⟨tb, 0, none⟩)]] w fun e w' => ∃ r TN, e = .returned (.bool r) ∧ (r = false → ¬ Sme W0) ∧ (r = true → (Sme W0 ↔ Sme TN) ∧ my W0 ≥ mx TN) ∧ (r = true → TmY w base D D T0 TN tb none w') ∧ (∀ b, D b → w'.heap[b]? = w.heap[b]?) ∧ Below base w w' := by
 have HD := Hid.mk hD
 have HZ := Hid.mk hsz
 have H0 : Hid (LsY w base D W0 T0 w.heap.size tb (my W0) v (w.alloc (.map #[] 0))) := by
  refine ⟨W0, [], [], ⟨rfl, by simp [mx]⟩, hown.kept fun k hk => (World.grownBy_alloc w _ none).block k (hown.lt hk).2 (by simp), MapP.made w D, Inv.start _ _ _ _ (fun _ _ h => (by cases h)), hW, fun b hb => ⟨(World.grownBy_alloc w _ none).block b (hD.lt hb) (by simp), hDv b hb⟩, (Below.refl _ _).alloc hbase _, hbase, by simp, fun e => ?_, ((hT.more w.heap.size (Nat.le_refl _)).kept fun b hb _ _ => (World.grownBy_alloc w _ none).block b hb (by simp))⟩
  have := (hown.lt e.symm).2
  omega
 clear hown hDv hW hsz hD hT
 have hmm := @run_makeMap Try.prog
 go_enter Try.func40, Try.ntmps40
 go_wp2
 go_loopg [0] (my W0) (fun k v wr => Hid (LsY w base D W0 T0 w.heap.size tb k v wr))
 case atStart => exact H0
 case round =>
  obtain ⟨wo, hwo⟩ : ∃ q, q = wr := ⟨_, rfl⟩
  subst hwo
  obtain ⟨W, E, TN, ⟨rfl, hle⟩, hown, hmp, hinv, hel, hdk, hbel, hbm, hml, hmv, htm⟩ := hrel.out
  clear hrel H0
  rcases List.eq_nil_or_concat W with rfl | ⟨W1, q, rfl⟩
  ·obtain ⟨ao, cap, rfl⟩ := hown.len
   have HF : Hid (Sme W0 ↔ Sme TN) := ⟨fun h => (hinv.a h).2, hinv.done⟩
   have HLE : Hid (my W0 ≥ mx TN) := by simp only [my] at hle; exact Nat.le_trans (by omega) hle
   have HTM : Hid (TmY w base D D T0 TN tb none wo) := (htm.sub fun b hb => .inl hb).noOb
   have HDK : Hid (∀ b, D b → wo.heap[b]? = w.heap[b]?) := fun b hb => (hdk b hb).1
   clear hinv hel hdk hmp hown htm hle
   go_wp2
   go_ret
   exact ⟨true, TN, rfl, fun e => (by cases e), fun _ => ⟨HF.out, HLE.out⟩, fun _ => HTM.out, HDK.out, hbel⟩
  ·rw [List.concat_eq_append] at hown hinv hel hle
   have Hle := Hid.mk hle
   clear hle
   obtain ⟨g, cap, rfl, hgc, hgm, hgb, hgl, hg0, hg1, hown1⟩ := hown.pop
   obtain ⟨hqa, hqb⟩ := hel q (by simp)
   obtain ⟨au, cu, hu, hu1, hu2, -⟩ := hqa.len
   obtain ⟨av, cv, hv, hv1, hv2, -⟩ := hqb.len
   rw [hu] at hg0 hqa
   rw [hv] at hg1 hqb
   have hgm2 : cap ≤ 9223372036854775807 := by unfold maxLen at hgm; exact hgm
   have hcu2 : cu ≤ 9223372036854775807 := by unfold maxLen at hu2; exact hu2
   have hcv2 : cv ≤ 9223372036854775807 := by unfold maxLen at hv2; exact hv2
   obtain ⟨c, hc⟩ : ∃ c, W1.length = c := ⟨_, rfl⟩
   rw [hc] at hg0 hg1 hgc hown1 ⊢
   have HC := Hid.mk hc
   clear hc hown hu2 hv2 hgm
   have hel1 : Hid (∀ q ∈ W1, Sl w D q.a q.u ∧ Sl w D q.b q.v) := fun x hx => hel x (List.mem_append_left _ hx)
   clear hel
   have Hinv := Hid.mk hinv
   have Hqa := Hid.mk hqa
   have Hqb := Hid.mk hqb
   have Hu := Hid.mk hu
   have Hv := Hid.mk hv
   have Hown := Hid.mk hown1
   have Hmp := Hid.mk hmp
   have Hdk := Hid.mk hdk
   have Hbel := Hid.mk hbel
   have Hmv := Hid.mk hmv
   have Htm := Hid.mk htm
   have Hmx := Hid.mk (my_append W1 [q])
   clear hinv hqa hqb hu hv hown1 hmp hdk hbel hmv htm
   have HDr : Hid (DkS wo D) := HD.out.kept fun b hb => (Hdk.out b hb).1
   obtain ⟨na, hna⟩ : ∃ n, q.a.length = n := ⟨_, rfl⟩
   obtain ⟨nb, hnb⟩ : ∃ n, q.b.length = n := ⟨_, rfl⟩
   rw [hna] at hg0 Hqa hu1 Hu
   rw [hnb] at hg1 Hqb hv1 Hv
   have Hna := Hid.mk hna
   have Hnb := Hid.mk hnb
   clear hna hnb
   have hj1 : (c : Int) < (c : Int) + 1 := by omega
   by_cases hlen : na = nb
   case neg =>
    have hb1 : ((na : Int) != (nb : Int)) = true := by rw [bne_iff_ne]; omega
    have hb2 : ((na : Int) == (nb : Int)) = false := by rw [beq_eq_false_iff_ne]; omega
    have HF : Hid (¬ Sme W0) := fun hs => hlen (by rw [← Hna.out, ← Hnb.out, Sme.one.1 (Sme.app.1 (Hinv.out.a hs).1).2])
    clear hlen
    go_wp2
    go_ret
    exact ⟨false, [], rfl, fun _ => HF.out, fun e => (by cases e), fun e => (by cases e), fun b hb => ((World.grownBy_alloc wo _ none).block b (HDr.out.lt hb) (by simp)).trans (Hdk.out b hb).1, Hbel.out.alloc (by have := Hbel.out.size; omega) _⟩
   subst hlen
   by_cases h0 : na = 0
   case pos =>
    subst h0
    have HR : Hid (∀ wz, Below wo.heap.size wo wz → LsY w base D W0 T0 w.heap.size tb (my W1) (.slice (some ⟨g, 0, none⟩) c cap) wz) := by
     intro wz hb
     have hbl := Hbel.out.size
     exact ⟨W1, E, TN, ⟨rfl, by have := Hle.out; rw [Hmx.out] at this; omega⟩, Hown.out.kept fun k hk => hb.block k (Hown.out.lt hk).2, Hmp.out.kept (hb.block _ Hmp.out.lt), Hinv.out.empty (List.length_eq_zero_iff.1 Hna.out) (List.length_eq_zero_iff.1 Hnb.out), hel1.out,
      fun b hb' => ⟨(hb.block b (HDr.out.lt hb')).trans (Hdk.out b hb').1, (Hdk.out b hb').2⟩, Hbel.out.trans (hb.mono (by omega)), hbm, Nat.lt_of_lt_of_le Hmp.out.lt hb.size, Hmv.out, Htm.out.kept fun b h1 _ _ => hb.block b h1⟩
    go_wp2
    go_roundg (my W1)
    case measure => rw [List.concat_eq_append, Hmx.out]; simp only [my]; omega
    case rel => exact HR.out _ ((Below.refl _ _).alloc (Nat.le_refl _) _)
   have hp : 0 < na := by omega
   have hp1 : (0 : Int) < na := by omega
   have hz1 : ((na : Int) == 0) = false := by rw [beq_eq_false_iff_ne]; omega
   have hz2 : ((na : Int) != (na : Int)) = false := by simp
   have hza : q.a ≠ [] := by rintro e; have := Hna.out; rw [e] at this; simp at this; omega
   have hzb : q.b ≠ [] := by rintro e; have := Hnb.out; rw [e] at this; simp at this; omega
   obtain ⟨ba, oa, UX, UA, UB, rfl, hela⟩ := Hqa.out.elems hza
   obtain ⟨bb, ob, VX, VA, VB, rfl, helb⟩ := Hqb.out.elems hzb
   have Hda := Hid.mk (Hqa.out.block hza)
   have Hdb := Hid.mk (Hqb.out.block hzb)
   have Hta := Hid.mk (treeY_eq Hqa.out hza)
   have Htb := Hid.mk (treeY_eq Hqb.out hzb)
   have Hela := Hid.mk hela
   have Helb := Hid.mk helb
   clear hela helb hza hzb h0
   have HG0 := Hid.mk (World.grownBy_alloc wo (.cells #[.slice (some ⟨ba, oa, none⟩) na cu, .slice (some ⟨bb, ob, none⟩) na cv] 55) none)
   have HB0 := Hid.mk (MapKept.heap_alloc wo (.cells #[.slice (some ⟨ba, oa, none⟩) na cu, .slice (some ⟨bb, ob, none⟩) na cv] 55)).1
   have HDj : Hid (∀ W, wo.grownBy W (some w.heap.size) → DkS W D) := fun W h => HDr.out.kept fun b hb => h.block b (HDr.out.lt hb) (by intro e; exact Hmp.out.not HDr.out hb (by simpa using e))
   go_wp2_with fail
   refine (joinY_any _ D w.heap.size E ba oa na cu bb ob na cv hp hp (HDj.out _ (World.grownBy.widen HG0.out _)) Hda.out Hdb.out (Hmp.out.kept (HG0.out.block _ Hmp.out.lt (by simp))) Hinv.out.up).mono ?_
   rintro e wj ⟨r, E', rfl, hmj, huj, hjj, hgj⟩
   have Hmj := Hid.mk hmj
   have Hgj := Hid.mk ((World.grownBy.widen HG0.out (some w.heap.size)).trans hgj)
   have HBj : Hid (wj.heap[wo.heap.size]? = some (.cells #[.slice (some ⟨ba, oa, none⟩) na cu, .slice (some ⟨bb, ob, none⟩) na cv] 55 (0, 0))) := (hgj.block _ (Array.getElem?_eq_some_iff.1 HB0.out).1 (by intro e; simp at e; omega)).trans HB0.out
   have Huj := Hid.mk huj
   have Hjj := Hid.mk hjj
   have Hbj : Hid (Below base w wj) := Hbel.out.grown Hgj.out (Nat.le_trans hbase Hbel.out.size) (by intro k hk; simp at hk; omega)
   have Howj : Hid (OwnRY wj base (.slice (some ⟨g, 0, none⟩) c cap) W1) := Hown.out.kept fun k hk => Hgj.out.block k (Hown.out.lt hk).2 (by intro e; simp [Value.ownBlock] at hk; have := Hmv.out; simp [Value.ownBlock] at this; simp at e; omega)
   have Hdkj : Hid (∀ b, D b → wj.heap[b]? = w.heap[b]? ∧ some b ≠ (Value.slice (some ⟨g, 0, none⟩) c cap).ownBlock) := fun b hb => ⟨(Hgj.out.block b (HDr.out.lt hb) (by intro e; exact Hmp.out.not HDr.out hb (by simpa using e))).trans (Hdk.out b hb).1, (Hdk.out b hb).2⟩
   have Hsj : Hid (wo.heap.size + 1 ≤ wj.heap.size) := by have := hgj.size; simpa [Hid] using this
   have hmlj : w.heap.size < wj.heap.size := hmj.lt
   have Htmj : Hid (TmY w base D (fun b => D b ∨ b = w.heap.size) T0 TN tb (some g) wj) := Htm.out.kept fun b h1 h2 _ => Hgj.out.block b h1 (by intro e; exact h2 (.inr (by simpa using e)))
   have Hmp0 := Hmp
   clear hmj huj hjj hgj HG0 HB0 HDj Hmp Hown Hdk
   cases r with
   | false =>
    have HR : Hid (LsY w base D W0 T0 w.heap.size tb (my W1) (.slice (some ⟨g, 0, none⟩) c cap) wj) :=
     ⟨W1, E', TN, ⟨rfl, by have := Hle.out; rw [Hmx.out] at this; omega⟩, Howj.out, Hmj.out, Hinv.out.skip Hta.out Htb.out Hjj.out Huj.out, hel1.out, Hdkj.out, Hbj.out, hbm, hmlj, Hmv.out, Htmj.out⟩
    go_wp2
    go_roundg (my W1)
    case measure => rw [List.concat_eq_append, Hmx.out]; simp only [my]; omega
    case rel => exact HR.out
   | true =>
    have Hinvj := Hid.mk (Hinv.out.join Hta.out Htb.out Hjj.out Huj.out)
    clear Hinv Hta Htb Hjj Huj
    have d0 : wj.cell? ⟨wo.heap.size, 0, none⟩ = some (.slice (some ⟨ba, oa, none⟩) na cu) := by rw [cell_of_row wj _ 0 _ _ (0, 0) HBj.out]; rfl
    have d1 : wj.cell? ⟨wo.heap.size, 1, none⟩ = some (.slice (some ⟨bb, ob, none⟩) na cv) := by rw [cell_of_row wj _ 1 _ _ (0, 0) HBj.out]; rfl
    have HI : Hid (InY2 w base D W1 q E' T0 TN w.heap.size tb wo.heap.size (.int .i64 0) (.slice (some ⟨g, 0, none⟩) c cap) wj) := by
     refine ⟨0, [], [], rfl, Nat.zero_le _, KidY.start _ _ _, by rw [List.append_nil]; exact Howj.out, Hmj.out, Hdkj.out, Hbj.out, hbm, hmlj, Hmv.out, by rw [Hu.out, Hv.out]; exact HBj.out, ?_, ?_, ?_, ?_, ?_⟩
     ·intro e
      simp [Value.ownBlock] at e
      omega
     ·exact Nat.le_trans hbase Hbel.out.size
     ·intro e
      have := HDr.out.lt e
      omega
     ·have := Hmp0.out.lt
      omega
     ·rw [List.append_nil]
      exact (((Htm.out.more wo.heap.size (Nat.le_refl _)).kept fun b h1 h2 _ => Hgj.out.block b h1 (by intro e; exact h2 (.inl (.inr (by simpa using e))))))
    clear Hmj Hdkj Hbj Howj HBj Hgj Htmj Htm Hmp0
    go_wp2
    go_loopw [0, 45] (fun v i wz => Hid (InY2 w base D W1 q E' T0 TN w.heap.size tb wo.heap.size i v wz)) (fun _ i _ => q.a.length - (intOf i).toNat)
    case atStart => exact HI
    case round =>
     obtain ⟨v, hvq⟩ : ∃ q, q = u0 := ⟨_, rfl⟩
     subst hvq
     obtain ⟨kk, KK, TK, rfl, hKl, hkid, hok, hmk, hdk2, hbk, -, hmlk, hmvk, hbox, hbxv, hbxb, hbxD, hbxm, htk⟩ := hrel.out
     have Htk := Hid.mk htk
     clear htk
     clear hrel HI d0 d1
     rw [Hu.out, Hv.out] at hbox
     have hbl2 := (Array.getElem?_eq_some_iff.1 hbox).1
     have d0 : wr.cell? ⟨wo.heap.size, 0, none⟩ = some (.slice (some ⟨ba, oa, none⟩) na cu) := by rw [cell_of_row wr _ 0 _ _ (0, 0) hbox]; rfl
     have d1 : wr.cell? ⟨wo.heap.size, 1, none⟩ = some (.slice (some ⟨bb, ob, none⟩) na cv) := by rw [cell_of_row wr _ 1 _ _ (0, 0) hbox]; rfl
     have Hbox := Hid.mk hbox
     have Hkid := Hid.mk hkid
     have Hok := Hid.mk hok
     have Hmk := Hid.mk hmk
     have Hdk2 := Hid.mk hdk2
     have Hbk := Hid.mk hbk
     have Hmvk := Hid.mk hmvk
     have Hbxv := Hid.mk hbxv
     have HbxD := Hid.mk hbxD
     clear hbox hkid hok hmk hdk2 hbk hmvk hbxv hbxD
     have HDr2 : Hid (DkS wr D) := HD.out.kept fun b hb => (Hdk2.out b hb).1
     rw [Hna.out] at hKl
     by_cases hkl : kk < na
     ·have hi1 : (kk : Int) < na := by omega
      have hka : kk < q.a.length := by rw [Hna.out]; exact hkl
      have hkb : kk < q.b.length := by rw [Hnb.out]; exact hkl
      obtain ⟨⟨x0, x1, x2, x3, x4, x5⟩, hsx, hsa, hsb, -⟩ := Hela.out kk hka
      obtain ⟨⟨y0, y1, y2, y3, y4, y5⟩, hrx, hra, hrb, -⟩ := Helb.out kk hkb
      have HH : Hid (∀ b : Bool, hdS q.a[kk] q.b[kk] = b → b = false → ¬ Sme W0) := by
       intro b hb hf hs
       subst hb
       have := (Hinvj.out.a hs).2.1
       have : labY.hd q.a[kk] q.b[kk] := labY.self _ _ (by simp only [this])
       rw [hdS_iff.2 this.1] at hf
       cases hf
      obtain ⟨xxo, xxc, ex1, -, -, -⟩ := hsx.len
      obtain ⟨xao, xac, ex2, -, -, -⟩ := hsa.len
      obtain ⟨xbo, xbc, ex3, -, -, -⟩ := hsb.len
      obtain ⟨yxo, yxc, ey1, -, -, -⟩ := hrx.len
      obtain ⟨yao, yac, ey2, -, -, -⟩ := hra.len
      obtain ⟨ybo, ybc, ey3, -, -, -⟩ := hrb.len
      rw [ex1] at x3 hsx
      rw [ex2] at x4 hsa
      rw [ex3] at x5 hsb
      rw [ey1] at y3 hrx
      rw [ey2] at y4 hra
      rw [ey3] at y5 hrb
      have HAd : Hid (∀ b : Bool, b = true → hdS q.a[kk] q.b[kk] = b → KidY w D q (KK ++ [⟨q.a[kk].a, q.b[kk].a, .slice xao q.a[kk].a.length xac, .slice yao q.b[kk].a.length yac⟩, ⟨q.a[kk].b, q.b[kk].b, .slice xbo q.a[kk].b.length xbc, .slice ybo q.b[kk].b.length ybc⟩]) (TK ++ [⟨q.a[kk].x, q.b[kk].x, .slice xxo q.a[kk].x.length xxc, .slice yxo q.b[kk].x.length yxc⟩]) (kk + 1)) := by
       intro b hb1 hb2
       exact Hkid.out.add hka hkb _ _ _ (hdS_iff.1 (hb2.trans hb1)) ⟨rfl, rfl⟩ ⟨rfl, rfl⟩ ⟨rfl, rfl⟩ ⟨hsa, hra⟩ ⟨hsb, hrb⟩ ⟨hsx, hrx⟩
      have HTE : Hid (El w D q.a[kk].x (.slice xxo q.a[kk].x.length xxc) ∧ El w D q.b[kk].x (.slice yxo q.b[kk].x.length yxc)) := ⟨hsx, hrx⟩
      clear ex1 ex2 ex3 ey1 ey2 ey3
      obtain ⟨tx, htx⟩ : ∃ t, q.a[kk] = t := ⟨_, rfl⟩
      obtain ⟨ty, hty⟩ : ∃ t, q.b[kk] = t := ⟨_, rfl⟩
      rw [htx, hty] at HH HAd HTE
      rw [htx] at x0 x1 x2 x3 x4 x5
      rw [hty] at y0 y1 y2 y3 y4 y5
      clear hsa hsb hsx hra hrb hrx htx hty hka hkb
      have hbd : ba < w.heap.size := by have := HD.out.lt Hda.out; exact this
      have hbd2 : bb < w.heap.size := by have := HD.out.lt Hdb.out; exact this
      have HXA : Hid (∀ w' : World, (∀ b0, (D b0 ∨ b0 = wo.heap.size) → w'.heap[b0]? = wr.heap[b0]?) → w'.cell? ⟨ba, oa + kk * 6, none⟩ = some (.int .i64 tx.k) ∧ w'.cell? ⟨ba, oa + kk * 6 + 1, none⟩ = some (.string tx.s) ∧ w'.cell? ⟨ba, oa + kk * 6 + 2, none⟩ = some (.string tx.t) ∧ w'.cell? ⟨ba, oa + kk * 6 + 3, none⟩ = some (.slice xxo tx.x.length xxc) ∧ w'.cell? ⟨ba, oa + kk * 6 + 4, none⟩ = some (.slice xao tx.a.length xac) ∧ w'.cell? ⟨ba, oa + kk * 6 + 5, none⟩ = some (.slice xbo tx.b.length xbc)) := by
       intro w' hw
       have hh := (hw ba (.inl Hda.out)).trans (Hdk2.out ba Hda.out).1
       exact ⟨by rw [World.cell?_of_block (w := w) hh]; exact x0, by rw [World.cell?_of_block (w := w) hh]; exact x1, by rw [World.cell?_of_block (w := w) hh]; exact x2, by rw [World.cell?_of_block (w := w) hh]; exact x3, by rw [World.cell?_of_block (w := w) hh]; exact x4, by rw [World.cell?_of_block (w := w) hh]; exact x5⟩
      have HXB : Hid (∀ w' : World, (∀ b0, (D b0 ∨ b0 = wo.heap.size) → w'.heap[b0]? = wr.heap[b0]?) → w'.cell? ⟨bb, ob + kk * 6, none⟩ = some (.int .i64 ty.k) ∧ w'.cell? ⟨bb, ob + kk * 6 + 1, none⟩ = some (.string ty.s) ∧ w'.cell? ⟨bb, ob + kk * 6 + 2, none⟩ = some (.string ty.t) ∧ w'.cell? ⟨bb, ob + kk * 6 + 3, none⟩ = some (.slice yxo ty.x.length yxc) ∧ w'.cell? ⟨bb, ob + kk * 6 + 4, none⟩ = some (.slice yao ty.a.length yac) ∧ w'.cell? ⟨bb, ob + kk * 6 + 5, none⟩ = some (.slice ybo ty.b.length ybc)) := by
       intro w' hw
       have hh := (hw bb (.inl Hdb.out)).trans (Hdk2.out bb Hdb.out).1
       exact ⟨by rw [World.cell?_of_block (w := w) hh]; exact y0, by rw [World.cell?_of_block (w := w) hh]; exact y1, by rw [World.cell?_of_block (w := w) hh]; exact y2, by rw [World.cell?_of_block (w := w) hh]; exact y3, by rw [World.cell?_of_block (w := w) hh]; exact y4, by rw [World.cell?_of_block (w := w) hh]; exact y5⟩
      have HXD : Hid (∀ w' : World, (∀ b0, (D b0 ∨ b0 = wo.heap.size) → w'.heap[b0]? = wr.heap[b0]?) → ∀ o, w'.cell? ⟨wo.heap.size, o, none⟩ = #[Value.slice (some ⟨ba, oa, none⟩) na cu, .slice (some ⟨bb, ob, none⟩) na cv][o]?) := fun w' hw o => cell_of_row w' _ o _ _ (0, 0) ((hw _ (.inr rfl)).trans Hbox.out)
      clear x0 x1 x2 x3 x4 x5 y0 y1 y2 y3 y4 y5 d0 d1
      have S0 : Hid (∀ b0, (D b0 ∨ b0 = wo.heap.size) → wr.drew.heap[b0]? = wr.heap[b0]?) := fun _ _ => rfl
      go_wp2_with fail
      refine wp_region_held_drew (S := fun (w' : World) => ∀ b0, (D b0 ∨ b0 = wo.heap.size) → w'.heap[b0]? = wr.heap[b0]?) (by kernel_rfl) S0.out (fun _ => ?_)
      refine takeHD (i := 0) (v := .func (.func 39) #[] #[.pointer (some ⟨tb, 0, none⟩)]) (some 49) rfl rfl (by kernel_rfl) (by kernel_rfl) (by kernel_rfl) (fun _ _ _ h => h) (Or.inl ⟨by kernel_rfl, fun w' hw => ?_⟩) S0.out ?_
      ·go_simp
      simp only [Act.put, List.setIfInBounds_toArray]
      refine takeHD (i := 1) (v := .pointer (some ⟨wo.heap.size, 0, none⟩)) (some 50) rfl rfl (by kernel_rfl) (by kernel_rfl) (by kernel_rfl) (fun _ _ _ h => h) (Or.inl ⟨by kernel_rfl, fun w' hw => ?_⟩) S0.out ?_
      ·go_simp
      simp only [Act.put, List.setIfInBounds_toArray]
      refine takeHD (i := 2) (v := .slice (some ⟨ba, oa, none⟩) na cu) (some 51) rfl rfl (by kernel_rfl) (by kernel_rfl) (by kernel_rfl) (fun _ _ _ h => h) (Or.inl ⟨by kernel_rfl, fun w' hw => ?_⟩) S0.out ?_
      ·have hq := HXD.out w' hw
       go_simp
      simp only [Act.put, List.setIfInBounds_toArray]
      refine takeHD (i := 3) (v := .int .i64 kk) (some 52) rfl rfl (by kernel_rfl) (by kernel_rfl) (by kernel_rfl) (fun _ _ _ h => h) (Or.inl ⟨by kernel_rfl, fun w' hw => ?_⟩) S0.out ?_
      ·go_simp
      simp only [Act.put, List.setIfInBounds_toArray]
      refine takeHD (i := 4) (v := .pointer (some ⟨ba, oa + kk * 6, none⟩)) (some 53) rfl rfl (by kernel_rfl) (by kernel_rfl) (by kernel_rfl) (fun _ _ _ h => h) (Or.inl ⟨by kernel_rfl, fun w' hw => ?_⟩) S0.out ?_
      ·go_simp
      simp only [Act.put, List.setIfInBounds_toArray]
      refine takeHD (i := 5) (v := st tx.k tx.s tx.t (.slice xxo tx.x.length xxc) (.slice xao tx.a.length xac) (.slice xbo tx.b.length xbc)) (some 54) rfl rfl (by kernel_rfl) (by kernel_rfl) (by kernel_rfl) (fun _ _ _ h => h) (Or.inl ⟨by kernel_rfl, fun w' hw => ?_⟩) S0.out ?_
      ·obtain ⟨p0, p1, p2, p3, p4, p5⟩ := HXA.out w' hw
       go_simp
      simp only [Act.put, List.setIfInBounds_toArray]
      refine takeHD (i := 6) (v := .pointer (some ⟨wo.heap.size, 1, none⟩)) (some 55) rfl rfl (by kernel_rfl) (by kernel_rfl) (by kernel_rfl) (fun _ _ _ h => h) (Or.inl ⟨by kernel_rfl, fun w' hw => ?_⟩) S0.out ?_
      ·go_simp
      simp only [Act.put, List.setIfInBounds_toArray]
      refine takeHD (i := 7) (v := .slice (some ⟨bb, ob, none⟩) na cv) (some 56) rfl rfl (by kernel_rfl) (by kernel_rfl) (by kernel_rfl) (fun _ _ _ h => h) (Or.inl ⟨by kernel_rfl, fun w' hw => ?_⟩) S0.out ?_
      ·have hq := HXD.out w' hw
       go_simp
      simp only [Act.put, List.setIfInBounds_toArray]
      refine takeHD (i := 8) (v := .int .i64 kk) (some 57) rfl rfl (by kernel_rfl) (by kernel_rfl) (by kernel_rfl) (fun _ _ _ h => h) (Or.inl ⟨by kernel_rfl, fun w' hw => ?_⟩) S0.out ?_
      ·go_simp
      simp only [Act.put, List.setIfInBounds_toArray]
      refine takeHD (i := 9) (v := .pointer (some ⟨bb, ob + kk * 6, none⟩)) (some 58) rfl rfl (by kernel_rfl) (by kernel_rfl) (by kernel_rfl) (fun _ _ _ h => h) (Or.inl ⟨by kernel_rfl, fun w' hw => ?_⟩) S0.out ?_
      ·go_simp
      simp only [Act.put, List.setIfInBounds_toArray]
      refine takeHD (i := 10) (v := st ty.k ty.s ty.t (.slice yxo ty.x.length yxc) (.slice yao ty.a.length yac) (.slice ybo ty.b.length ybc)) (some 59) rfl rfl (by kernel_rfl) (by kernel_rfl) (by kernel_rfl) (fun _ _ _ h => h) (Or.inl ⟨by kernel_rfl, fun w' hw => ?_⟩) S0.out ?_
      ·obtain ⟨p0, p1, p2, p3, p4, p5⟩ := HXB.out w' hw
       go_simp
      simp only [Act.put, List.setIfInBounds_toArray]
      refine wpAnyH_ready (rs := [11]) (by kernel_rfl) (by simp) ?_
      refine AllReadyH.cons rfl (fun K hK => ?_) AllReadyH.nil
      rw [if_pos (by kernel_rfl)]
      go_wp2_with fail
      obtain ⟨tv, htb, hto, htob, htbt, htvo, htx, hte, htbb⟩ := Htk.out
      have HTL : Hid ((T0 ++ (TN ++ TK)).length + 1 ≤ 2199023255552) := by
       refine Hid.mk ?_
       have h1 := mx_len (TN ++ TK)
       have h2 := Hkid.out.sz
       have h3 := Hle.out
       have h4 := szy_take_le q.b kk
       have h5 := HZ.out
       rw [mx_append] at h1
       rw [Hmx.out] at h3
       simp only [my] at h3
       rw [List.length_append]
       omega
      refine (withinY_any tx ty xxo xao xbo yxo yao ybo _ xxc _ xac _ xbc _ yxc _ yac _ ybc wr.drew base tb tv (T0 ++ (TN ++ TK)) htb (World.ownsRow.drew hto) htbt htbb HTL.out).mono ?_
      rintro e w3 ⟨mb, tw, rfl, hmb, hmbl, htb3, hto3, htw3, hfr3, hbb3, hss3⟩
      have hs3d : wr.heap.size ≤ w3.heap.size := hss3
      have hmb' : wr.heap.size ≤ mb := hmbl
      have hfr3' : ∀ b, b < wr.heap.size → b ≠ tb → some b ≠ tv.ownBlock → w3.heap[b]? = wr.heap[b]? := hfr3
      have htw3' : tw.ownBlock = tv.ownBlock ∨ ∃ g, tw.ownBlock = some g ∧ wr.heap.size ≤ g ∧ g ≠ mb := htw3
      have htv3 : ∀ g, tv.ownBlock = some g → g < wr.heap.size := fun g hg => (hto.lt hg).2
      have htb0 : tb < wr.heap.size := (Array.getElem?_eq_some_iff.1 htb).1
      have S1 : Hid (∀ b0, (D b0 ∨ b0 = wo.heap.size) → w3.heap[b0]? = wr.heap[b0]?) := by
       intro b0 h0
       have hd : (D b0 ∨ b0 = w.heap.size) ∨ b0 = wo.heap.size := by
        rcases h0 with h0 | h0
        ·exact .inl (.inl h0)
        ·exact .inr h0
       refine hfr3' b0 ?_ (htx b0 hd).1 (htx b0 hd).2
       rcases h0 with h0 | rfl
       ·exact HDr2.out.lt h0
       ·exact hbl2
      have HB3 : Hid (Below base w w3) := Hbk.out.trans ((Below.drewSelf _ _ 1 : Below base wr wr.drew).trans hbb3)
      have HO3 : Hid (OwnRY w3 base v (W1 ++ KK)) := Hok.out.kept fun k hk => hfr3' k (Hok.out.lt hk).2 (by rintro rfl; exact htob hk.symm) (by intro e; exact htvo k hk e.symm)
      have HM3 : Hid (MapP w3 D w.heap.size E') := Hmk.out.kept (hfr3' _ Hmk.out.lt (htx _ (.inl (.inr rfl))).1 (htx _ (.inl (.inr rfl))).2)
      have HT3 : Hid (TmY w base D (fun b => (D b ∨ b = w.heap.size) ∨ b = wo.heap.size) T0 (TN ++ (TK ++ [⟨tx.x, ty.x, .slice xxo tx.x.length xxc, .slice yxo ty.x.length yxc⟩])) tb v.ownBlock w3) := by
       refine ⟨tw, htb3, by rw [List.append_assoc, List.append_assoc] at hto3; exact hto3, htob, ?_, ?_, ?_, ?_, htbb⟩
       ·rcases htw3' with h | ⟨g, h, h1, -⟩
        ·rw [h]; exact htbt
        ·rw [h]; intro e; simp at e; omega
       ·intro g hg
        rcases htw3' with h | ⟨g', h, h1, -⟩
        ·rw [h]; exact htvo g hg
        ·rw [h]; intro e; have := (Hok.out.lt hg).2; simp at e; omega
       ·intro b hb
        refine ⟨(htx b hb).1, ?_⟩
        rcases htw3' with h | ⟨g', h, h1, -⟩
        ·rw [h]; exact (htx b hb).2
        ·rw [h]
         intro e
         have hbl3 : b < wr.heap.size := by
          rcases hb with (hb | rfl) | rfl
          ·exact HDr2.out.lt hb
          ·exact Hmk.out.lt
          ·exact hbl2
         simp at e
         omega
       ·intro x hx
        rcases List.mem_append.1 hx with hx | hx
        ·exact hte x (List.mem_append_left _ hx)
        ·rcases List.mem_append.1 hx with hx | hx
         ·exact hte x (List.mem_append_right _ hx)
         ·obtain rfl : x = _ := by simpa using hx
          exact HTE.out
      have HNB : Hid (tw.ownBlock ≠ some mb) := by
       refine Hid.mk ?_
       rcases htw3' with h | ⟨g', h, h1, h2⟩
       ·rw [h]; intro e; have := htv3 mb e; omega
       ·rw [h]; intro e; simp at e; exact h2 e
      have HS3 := Hid.mk hs3d
      have Hmb : Hid (w3.heap[mb]? = some (.cells (prCells ([⟨tx.a, ty.a, .slice xao tx.a.length xac, .slice yao ty.a.length yac⟩, ⟨tx.b, ty.b, .slice xbo tx.b.length xbc, .slice ybo ty.b.length ybc⟩] : List (Prr St))).toArray 55 (0, 0))) := hmb
      clear hmb hmbl htb3 hto3 htw3 hfr3 hbb3 hss3 htb hto htob htbt htvo htx hte htbb hmb' hfr3' htw3' htv3 htb0 hs3d
      refine hK.out _ _ S1.out (fun _ => ?_)
      clear hK K
      obtain ⟨R, hR⟩ : ∃ R, hdS tx ty = R := ⟨_, rfl⟩
      rw [hR]
      have HR := Hid.mk hR
      clear hR
      refine takeHD (i := 12) (v := .tuple #[.slice (some ⟨mb, 0, none⟩) 2 2, .bool R]) (some 48) rfl rfl (by kernel_rfl) (by kernel_rfl) (by kernel_rfl) (fun _ _ _ h => h) (Or.inl ⟨by kernel_rfl, fun w' hw => ?_⟩) S1.out ?_
      ·go_simp
      simp only [Act.put, List.setIfInBounds_toArray]
      refine takeHD (i := 13) (v := .slice (some ⟨mb, 0, none⟩) 2 2) (some 61) rfl rfl (by kernel_rfl) (by kernel_rfl) (by kernel_rfl) (fun _ _ _ h => h) (Or.inl ⟨by kernel_rfl, fun w' hw => ?_⟩) S1.out ?_
      ·go_simp
      simp only [Act.put, List.setIfInBounds_toArray]
      refine takeHD (i := 14) (v := .bool R) (some 62) rfl rfl (by kernel_rfl) (by kernel_rfl) (by kernel_rfl) (fun _ _ _ h => h) (Or.inl ⟨by kernel_rfl, fun w' hw => ?_⟩) S1.out ?_
      ·go_simp
      simp only [Act.put, List.setIfInBounds_toArray]
      refine takeHD (i := 15) (v := .slice (some ⟨mb, 0, none⟩) 2 2) (some 9) rfl rfl (by kernel_rfl) (by kernel_rfl) (by kernel_rfl) (fun _ _ _ h => h) (Or.inl ⟨by kernel_rfl, fun w' hw => ?_⟩) S1.out ?_
      ·go_simp
      simp only [Act.put, List.setIfInBounds_toArray]
      refine takeHD (i := 16) (v := .bool R) (some 10) rfl rfl (by kernel_rfl) (by kernel_rfl) (by kernel_rfl) (fun _ _ _ h => h) (Or.inl ⟨by kernel_rfl, fun w' hw => ?_⟩) S1.out ?_
      ·go_simp
      simp only [Act.put, List.setIfInBounds_toArray]
      refine wpAnyH_done (by kernel_rfl) ?_ _
      clear HXA HXB HXD S0
      cases R with
      | false =>
       have HF : Hid (¬ Sme W0) := HH.out _ HR.out rfl
       have HBB := HB3
       go_wp2
       go_ret
       exact ⟨false, [], rfl, fun _ => HF.out, fun e => (by cases e), fun e => (by cases e), fun b hb => (S1.out b (.inl hb)).trans (Hdk2.out b hb).1, HBB.out⟩
      | true =>
       have Hok3 := HO3
       have HBB := HB3
       have HLen : Hid ((W1 ++ KK).length + 2 ≤ 2199023255552) := by
        refine Hid.mk ?_
        have h1 := my_len (W1 ++ KK)
        have h2 := Hkid.out.sz
        have h3 := Hle.out
        have h4 := szy_take_le q.b kk
        have h5 := HZ.out
        rw [my_append] at h1
        rw [Hmx.out] at h3
        simp only [my] at h3
        omega
       have HOne : Hid (∀ x ∈ ([⟨tx.a, ty.a, .slice xao tx.a.length xac, .slice yao ty.a.length yac⟩, ⟨tx.b, ty.b, .slice xbo tx.b.length xbc, .slice ybo ty.b.length ybc⟩] : List (Prr St)), x.u.oneCell' = true ∧ x.v.oneCell' = true) := by
        intro x hx
        rcases List.mem_cons.1 hx with rfl | hx
        ·exact ⟨rfl, rfl⟩
        rcases List.mem_cons.1 hx with rfl | hx
        ·exact ⟨rfl, rfl⟩
        cases hx
       go_wp2_with (at_builtin; refine wpList_append_rY rfl _ _ rfl base _ (W1 ++ KK) [⟨tx.a, ty.a, .slice xao tx.a.length xac, .slice yao ty.a.length yac⟩, ⟨tx.b, ty.b, .slice xbo tx.b.length xbc, .slice ybo ty.b.length ybc⟩] rfl Hok3.out mb 2 rfl Hmb.out HOne.out (Nat.le_trans hbase HBB.out.size) HLen.out ?_; intro v4 w4 ho4 hg4 hv4)
       have hs34 := hg4.size
       have hs23 := HS3.out
       have hne4 : ∀ b, b < w3.heap.size → some b ≠ v.ownBlock → some b ≠ v4.ownBlock := by
        intro b hb h1
        rcases hv4 with h | h
        ·rw [h]; exact h1
        ·rw [h]; intro e; simp at e; omega
       have hin : InY2 w base D W1 q E' T0 TN w.heap.size tb wo.heap.size (.int .i64 (kk + 1 : Nat)) v4 w4 := by
        have hk3 : ∀ b, b < w3.heap.size → some b ≠ v.ownBlock → w4.heap[b]? = w3.heap[b]? := fun b hb h1 => hg4.block b hb h1
        have hml3 := HM3.out.lt
        refine ⟨kk + 1, _, _, rfl, by rw [Hna.out]; exact hkl, HAd.out true rfl HR.out, by rw [← List.append_assoc]; exact ho4,
         HM3.out.kept (hk3 _ hml3 Hmvk.out), fun b hb => ⟨(hk3 b (by have := HDr2.out.lt hb; omega) (Hdk2.out b hb).2).trans ((S1.out b (.inl hb)).trans (Hdk2.out b hb).1), hne4 b (by have := HDr2.out.lt hb; omega) (Hdk2.out b hb).2⟩, HBB.out.grown hg4 (Nat.le_trans hbase HBB.out.size) (fun k hk => (Hok3.out.lt hk).1), hbm, by omega, hne4 _ hml3 Hmvk.out,
         by rw [Hu.out, Hv.out]; exact (hk3 _ (by omega) Hbxv.out).trans ((S1.out _ (.inr rfl)).trans Hbox.out), hne4 _ (by omega) Hbxv.out, hbxb, HbxD.out, hbxm, ?_⟩
        obtain ⟨tv2, q1, q2, q3, q4, q5, q6, q7, q8⟩ := HT3.out
        have htl3 := (Array.getElem?_eq_some_iff.1 q1).1
        refine ⟨tv2, (hk3 tb htl3 q3).trans q1, q2.kept fun k hk => hk3 k (q2.lt hk).2 (fun e => q5 k e.symm hk), hne4 _ htl3 q3, q4, fun g' hg' => ?_, q6, q7, q8⟩
        rcases hv4 with h | h
        ·exact q5 g' (h.symm.trans hg')
        ·rw [h] at hg'
         intro e
         have := (q2.lt e).2
         simp at hg'
         omega
       have HIN := Hid.mk hin
       clear hin hne4 ho4 hg4 hv4 HT3 HNB HO3 HM3
       go_wp2
       go_roundw
       case measure => have := Hna.out; simp [intOf]; omega
       case rel => exact HIN.out
     ·obtain rfl : kk = na := by omega
      have hi1 : ¬ ((kk : Int) < (kk : Int)) := by omega
      have HMz : Hid (my (W1 ++ KK) < my (W1 ++ [q]) ∧ my (W1 ++ KK) + mx (TN ++ TK) ≤ my W0) := by
       refine Hid.mk ?_
       have h1 := Hkid.out.sz
       have h2 := szy_take_le q.b kk
       have h3 := Hle.out
       rw [Hmx.out] at h3
       rw [my_append, my_append, mx_append]
       simp only [my] at h3 ⊢
       omega
      have HR : Hid (LsY w base D W0 T0 w.heap.size tb (my (W1 ++ KK)) v wr) := by
       refine ⟨W1 ++ KK, E', TN ++ TK, ⟨rfl, HMz.out.2⟩, Hok.out, Hmk.out, Hkid.out.done Hna.out Hnb.out Hinvj.out, fun x hx => ?_, Hdk2.out, Hbk.out, hbm, hmlk, Hmvk.out, Htk.out.sub fun b hb => .inl hb⟩
       rcases List.mem_append.1 hx with hx | hx
       ·exact hel1.out x hx
       ·exact Hkid.out.el x hx
      go_wp2
      go_roundg (my (W1 ++ KK))
      case measure => exact HMz.out.1
      case rel => exact HR.out
end Go.Proofs.Ytijpmnenegdmnaa
