/- The draws of the law on sameness: two terms, two statements, two programs. -/
import Derived.Test.YtijpmnenegdmnaaQPgAnyD
import Derived.Test.YtijpmnenegdmnaaQLowOf
namespace Go.Proofs.Ytijpmnenegdmnaa
open Go.RowKit
set_option maxRecDepth 8000
set_option linter.unusedSimpArgs false

def TwoX (w : World) (n : Nat) (A B : Ex) (x y : Value) : Prop := (DxS 4 A ∧ DxS 4 B) ∧ El w (nf w n) A.l x ∧ El w (nf w n) B.l y
def TwoY (w : World) (n : Nat) (A B : Yv) : Prop := (DyN 8000000 A.t ∧ DyN 8000000 B.t) ∧ YRd w n none A ∧ YRd w n none B
def TwoP (w : World) (n : Nat) (p q : Pg) (x0 x1 y0 y1 : Value) : Prop := (p.sz ≤ 68719476736 ∧ q.sz ≤ 68719476736) ∧ (Ul w (nf w n) p.r x0 ∧ Fl w (nf w n) p.f x1) ∧ Ul w (nf w n) q.r y0 ∧ Fl w (nf w n) q.f y1
theorem yrd_byN {w w' : World} {n R : Nat} {q : Yv} (h : YRd w n none q) (hg : w.grownBy w' (some R)) (hR : R < n) : YRd w' n none q := h.kept fun b hb hn hlt => ⟨hg.block b hlt (by have := hb.1; intro e; simp at e; omega), hn⟩
theorem yrd_low {w : World} {n m : Nat} {q : Yv} (h : YRd w n none q) (hm : m ≤ n) : YRd w m none q := ⟨h.1.imp fun _ hb _ => ⟨⟨by have := hb.1.1; omega, hb.1.2⟩, hb.2⟩, h.2.1.imp fun _ hb _ => ⟨⟨by have := hb.1.1; omega, hb.1.2⟩, hb.2⟩, h.2.2.imp fun _ hb _ => ⟨⟨by have := hb.1.1; omega, hb.1.2⟩, hb.2⟩⟩
theorem El.low {w : World} {n m : Nat} {l : List Ex} {v : Value} (h : El w (nf w n) l v) (hm : m ≤ n) : El w (nf w m) l v := h.imp fun _ hb _ => ⟨by have := hb.1; omega, hb.2⟩
set_option maxHeartbeats 4000000 in
theorem drawSameExpr_any (v : Value) (zs : List Int) (w : World) (h : Bs w v zs) (hlen : zs.length ≤ 1048576) :
    Calls Try.prog 5 #[v] w fun e w' => ∃ (A B : Ex) (x y : Value), e = .returned (.tuple #[xx A.k A.n A.s x, xx B.k B.n B.s y]) ∧ TwoX w' w.heap.size A B x y ∧ Below w.heap.size w w' := by
  have A1 : Below w.heap.size w ((w.alloc (.cells #[.int .i64 0, .int .i64 0, .string ⟨#[]⟩, .slice none 0 0] 26)).alloc (.cells #[.int .i64 0, .int .i64 0, .string ⟨#[]⟩, .slice none 0 0] 26)) := ((Below.refl _ _).alloc (Nat.le_refl _) _).alloc (by simp) _
  have H := Hid.mk (h.grow A1)
  have A2 : Below (w.alloc (.cells #[.int .i64 0, .int .i64 0, .string ⟨#[]⟩, .slice none 0 0] 26)).heap.size (w.alloc (.cells #[.int .i64 0, .int .i64 0, .string ⟨#[]⟩, .slice none 0 0] 26)) ((w.alloc (.cells #[.int .i64 0, .int .i64 0, .string ⟨#[]⟩, .slice none 0 0] 26)).alloc (.cells #[.int .i64 0, .int .i64 0, .string ⟨#[]⟩, .slice none 0 0] 26)) := (Below.refl _ _).alloc (Nat.le_refl _) _
  have P0 := Hid.mk ((Bz4.new w (.int .i64 0) (.int .i64 0) (.string ⟨#[]⟩) (.slice none 0 0)).grow A2)
  have Q0 : Hid (Bz4 ((w.alloc (.cells #[.int .i64 0, .int .i64 0, .string ⟨#[]⟩, .slice none 0 0] 26)).alloc (.cells #[.int .i64 0, .int .i64 0, .string ⟨#[]⟩, .slice none 0 0] 26)) (w.heap.size + 1) (.int .i64 0) (.int .i64 0) (.string ⟨#[]⟩) (.slice none 0 0)) := by
    have := Bz4.new (w.alloc (.cells #[.int .i64 0, .int .i64 0, .string ⟨#[]⟩, .slice none 0 0] 26)) (.int .i64 0) (.int .i64 0) (.string ⟨#[]⟩) (.slice none 0 0)
    simpa [Hid] using this
  have S0 : ((w.alloc (.cells #[.int .i64 0, .int .i64 0, .string ⟨#[]⟩, .slice none 0 0] 26)).alloc (.cells #[.int .i64 0, .int .i64 0, .string ⟨#[]⟩, .slice none 0 0] 26)).heap.size = w.heap.size + 2 := by simp
  have HL0 := Hid.mk A1
  clear h A1 A2
  go_enter Try.func5, Try.ntmps5
  go_wp2_with fail
  generalize (w.alloc (.cells #[.int .i64 0, .int .i64 0, .string ⟨#[]⟩, .slice none 0 0] 26)).alloc (.cells #[.int .i64 0, .int .i64 0, .string ⟨#[]⟩, .slice none 0 0] 26) = W0 at *
  refine (l1New_any v zs W0 H.out hlen).mono ?_
  rintro e w1 ⟨rfl, hC1, hb1⟩
  have P1 := Hid.mk (P0.out.grow hb1)
  have Q1 := Hid.mk (Q0.out.grow hb1)
  have HL1 := Hid.mk (HL0.out.trans (hb1.mono (by omega)))
  have HC1 := Hid.mk hC1
  rw [S0] at HC1 ⊢
  obtain ⟨cb, hcb⟩ : ∃ c, w.heap.size + 2 = c := ⟨_, rfl⟩
  rw [hcb] at HC1 ⊢
  clear hC1 hb1 P0 Q0 HL0 H S0
  have hc1 := HC1.out.lt
  go_wp2_with fail
  refine (l8Any_any cb v zs w1 HC1.out).mono ?_
  rintro e w2 ⟨a, u, rfl, hd, he, hC, hg⟩
  obtain ⟨ao, an, ac, rfl⟩ : ∃ o n c, u = .slice o n c := by obtain ⟨o, c, h, -⟩ := he.len; exact ⟨_, _, _, h⟩
  obtain ⟨m, hm⟩ : ∃ m, w1.heap.size + 1 = m := ⟨_, rfl⟩
  rw [hm] at he
  have A3 : Below w2.heap.size w2 (w2.alloc (.cells #[.int .i64 a.k, .int .i64 a.n, .string a.s, .slice ao an ac] 26)) := (Below.refl _ _).alloc (Nat.le_refl _) _
  have hs2 := hg.size
  have P2 := Hid.mk ((P1.out.row hg (fun g e => by cases e; omega)).grow A3)
  have Q2 := Hid.mk ((Q1.out.row hg (fun g e => by cases e; omega)).grow A3)
  have HX2 := Hid.mk (Bz4.new w2 (.int .i64 a.k) (.int .i64 a.n) (.string a.s) (.slice ao an ac))
  have HEa2 : Hid (El (w2.alloc (.cells #[.int .i64 a.k, .int .i64 a.n, .string a.s, .slice ao an ac] 26)) (nf (w2.alloc (.cells #[.int .i64 a.k, .int .i64 a.n, .string a.s, .slice ao an ac] 26)) m) a.l (.slice ao an ac)) := he.nfgrow A3
  have HDa := Hid.mk hd
  have HC2 := Hid.mk (hC.grow A3)
  have HL2 := Hid.mk ((low_of HL1.out hg (by omega)).trans (A3.mono (by have := (low_of HL1.out hg (by omega)).size; omega)))
  clear hd he hC hg P1 Q1 HC1 HL1 A3
  go_wp2_with fail
  obtain ⟨ab, hab⟩ : ∃ c, w2.heap.size = c := ⟨_, rfl⟩
  rw [hab] at HX2 hs2
  generalize w2.alloc (.cells #[.int .i64 a.k, .int .i64 a.n, .string a.s, .slice ao an ac] 26) = w3 at *
  simp only [hab] at *
  refine (l1Once_any cb v zs 2 _ HC2.out).mono ?_
  rintro e w4 ⟨x, rfl, hC, hg⟩
  have P4 := Hid.mk (P2.out.row hg (fun g e => by cases e; omega))
  have Q4 := Hid.mk (Q2.out.row hg (fun g e => by cases e; omega))
  have HX4 := Hid.mk (HX2.out.row hg (fun g e => by cases e; omega))
  have HEa4 : Hid (El w4 (nf w4 m) a.l (.slice ao an ac)) := HEa2.out.by hg (by omega)
  have HC4 := Hid.mk hC
  have HL4 := Hid.mk (low_of HL2.out hg (by omega))
  clear hC hg P2 Q2 HX2 HEa2 HC2 HL2 hab
  have Pd := Hid.mk (P4.out.grow (drewB _ w4))
  have Qd := Hid.mk (Q4.out.grow (drewB _ w4))
  have HXd := Hid.mk (HX4.out.grow (drewB _ w4))
  have HEad : Hid (El w4.drew (nf w4.drew m) a.l (.slice ao an ac)) := HEa4.out.nfgrow (drewB _ w4)
  have HCd := Hid.mk (HC4.out.grow (drewB _ w4))
  have HLd := Hid.mk (HL4.out.trans (drewB _ w4))
  clear P4 Q4 HX4 HEa4 HC4 HL4
  cases x with
  | true =>
    go_wp2_with fail
    refine wp_region_held_drew (S := fun w' => w'.cell? ⟨ab, 0, none⟩ = some (.int .i64 a.k) ∧ w'.cell? ⟨ab, 1, none⟩ = some (.int .i64 a.n) ∧ w'.cell? ⟨ab, 2, none⟩ = some (.string a.s) ∧ w'.cell? ⟨ab, 3, none⟩ = some (.slice ao an ac)) (by kernel_rfl) ⟨HXd.out.c0, HXd.out.c1, HXd.out.c2, HXd.out.c3⟩ (fun _ => ?_)
    generalize w4.drew = wd at *
    refine takeHD (i := 0) (v := .agg #[.int .i64 a.k, .int .i64 a.n, .string a.s, .slice ao an ac]) (some 12) rfl rfl (by kernel_rfl) (by kernel_rfl) (by kernel_rfl) (fun _ _ _ h => h) (Or.inl ⟨by kernel_rfl, fun w' hw => ?_⟩) ⟨HXd.out.c0, HXd.out.c1, HXd.out.c2, HXd.out.c3⟩ ?_
    · obtain ⟨y0, y1, y2, y3⟩ := hw; go_simp
    simp only [Act.put, List.setIfInBounds_toArray]
    refine takeHD (i := 1) (v := .agg #[.int .i64 a.k, .int .i64 a.n, .string a.s, .slice ao an ac]) (some 13) rfl rfl (by kernel_rfl) (by kernel_rfl) (by kernel_rfl) (fun _ _ _ h => h) (Or.inl ⟨by kernel_rfl, fun w' hw => ?_⟩) ⟨HXd.out.c0, HXd.out.c1, HXd.out.c2, HXd.out.c3⟩ ?_
    · obtain ⟨y0, y1, y2, y3⟩ := hw; go_simp
    simp only [Act.put, List.setIfInBounds_toArray]
    refine wpAnyH_ready (rs := [2]) (by kernel_rfl) (by simp) ?_
    refine AllReadyH.cons rfl (fun K hK => ?_) AllReadyH.nil
    have z0 := Pd.out.c0
    have z1 := Pd.out.c1
    have z2 := Pd.out.c2
    have z3 := Pd.out.c3
    have zf := Pd.out.fr
    rw [if_pos (by kernel_rfl)]
    go_wp2_with fail
    have G : wd.grownBy ((((wd.setCell ⟨w.heap.size, 0, none⟩ (.int .i64 a.k)).setCell ⟨w.heap.size, 1, none⟩ (.int .i64 a.n)).setCell ⟨w.heap.size, 2, none⟩ (.string a.s)).setCell ⟨w.heap.size, 3, none⟩ (.slice ao an ac)) (some w.heap.size) := set4_by wd w.heap.size (.int .i64 a.k) (.int .i64 a.n) (.string a.s) (.slice ao an ac)
    have Pdp : Hid (Bz4 ((((wd.setCell ⟨w.heap.size, 0, none⟩ (.int .i64 a.k)).setCell ⟨w.heap.size, 1, none⟩ (.int .i64 a.n)).setCell ⟨w.heap.size, 2, none⟩ (.string a.s)).setCell ⟨w.heap.size, 3, none⟩ (.slice ao an ac)) w.heap.size (.int .i64 a.k) (.int .i64 a.n) (.string a.s) (.slice ao an ac)) := Pd.out.four (.int .i64 a.k) (.int .i64 a.n) (.string a.s) (.slice ao an ac)
    have Qdp := Hid.mk (Qd.out.row G (fun g e => by cases e; omega))
    have HXdp := Hid.mk (HXd.out.row G (fun g e => by cases e; omega))
    have HEadp : Hid (El ((((wd.setCell ⟨w.heap.size, 0, none⟩ (.int .i64 a.k)).setCell ⟨w.heap.size, 1, none⟩ (.int .i64 a.n)).setCell ⟨w.heap.size, 2, none⟩ (.string a.s)).setCell ⟨w.heap.size, 3, none⟩ (.slice ao an ac)) (nf ((((wd.setCell ⟨w.heap.size, 0, none⟩ (.int .i64 a.k)).setCell ⟨w.heap.size, 1, none⟩ (.int .i64 a.n)).setCell ⟨w.heap.size, 2, none⟩ (.string a.s)).setCell ⟨w.heap.size, 3, none⟩ (.slice ao an ac)) m) a.l (.slice ao an ac)) := HEad.out.by G (by omega)
    have HLdp := Hid.mk (low_of HLd.out G (by omega))
    refine hK.out _ _ ⟨HXdp.out.c0, HXdp.out.c1, HXdp.out.c2, HXdp.out.c3⟩ (fun _ => ?_)
    clear hK K z0 z1 z2 z3 Pd Qd HXd HEad HLd G zf
    generalize ((((wd.setCell ⟨w.heap.size, 0, none⟩ (.int .i64 a.k)).setCell ⟨w.heap.size, 1, none⟩ (.int .i64 a.n)).setCell ⟨w.heap.size, 2, none⟩ (.string a.s)).setCell ⟨w.heap.size, 3, none⟩ (.slice ao an ac)) = wy at *
    refine wpAnyH_ready (rs := [3]) (by kernel_rfl) (by simp) ?_
    refine AllReadyH.cons rfl (fun K hK => ?_) AllReadyH.nil
    have z0 := Qdp.out.c0
    have z1 := Qdp.out.c1
    have z2 := Qdp.out.c2
    have z3 := Qdp.out.c3
    have zf := Qdp.out.fr
    rw [if_pos (by kernel_rfl)]
    go_wp2_with fail
    have G : wy.grownBy ((((wy.setCell ⟨w.heap.size + 1, 0, none⟩ (.int .i64 a.k)).setCell ⟨w.heap.size + 1, 1, none⟩ (.int .i64 a.n)).setCell ⟨w.heap.size + 1, 2, none⟩ (.string a.s)).setCell ⟨w.heap.size + 1, 3, none⟩ (.slice ao an ac)) (some (w.heap.size + 1)) := set4_by wy (w.heap.size + 1) (.int .i64 a.k) (.int .i64 a.n) (.string a.s) (.slice ao an ac)
    have Qdpq : Hid (Bz4 ((((wy.setCell ⟨w.heap.size + 1, 0, none⟩ (.int .i64 a.k)).setCell ⟨w.heap.size + 1, 1, none⟩ (.int .i64 a.n)).setCell ⟨w.heap.size + 1, 2, none⟩ (.string a.s)).setCell ⟨w.heap.size + 1, 3, none⟩ (.slice ao an ac)) (w.heap.size + 1) (.int .i64 a.k) (.int .i64 a.n) (.string a.s) (.slice ao an ac)) := Qdp.out.four (.int .i64 a.k) (.int .i64 a.n) (.string a.s) (.slice ao an ac)
    have Pdpq := Hid.mk (Pdp.out.row G (fun g e => by cases e; omega))
    have HXdpq := Hid.mk (HXdp.out.row G (fun g e => by cases e; omega))
    have HEadpq : Hid (El ((((wy.setCell ⟨w.heap.size + 1, 0, none⟩ (.int .i64 a.k)).setCell ⟨w.heap.size + 1, 1, none⟩ (.int .i64 a.n)).setCell ⟨w.heap.size + 1, 2, none⟩ (.string a.s)).setCell ⟨w.heap.size + 1, 3, none⟩ (.slice ao an ac)) (nf ((((wy.setCell ⟨w.heap.size + 1, 0, none⟩ (.int .i64 a.k)).setCell ⟨w.heap.size + 1, 1, none⟩ (.int .i64 a.n)).setCell ⟨w.heap.size + 1, 2, none⟩ (.string a.s)).setCell ⟨w.heap.size + 1, 3, none⟩ (.slice ao an ac)) m) a.l (.slice ao an ac)) := HEadp.out.by G (by omega)
    have HLdpq := Hid.mk (low_of HLdp.out G (by omega))
    refine hK.out _ _ ⟨HXdpq.out.c0, HXdpq.out.c1, HXdpq.out.c2, HXdpq.out.c3⟩ (fun _ => ?_)
    clear hK K z0 z1 z2 z3 Pdp Qdp HXdp HEadp HLdp G zf
    refine wpAnyH_done (by kernel_rfl) ?_ _
    go_wp2
    have p0 := Pdpq.out.c0
    have q0 := Qdpq.out.c0
    have p1 := Pdpq.out.c1
    have q1 := Qdpq.out.c1
    have p2 := Pdpq.out.c2
    have q2 := Qdpq.out.c2
    have p3 := Pdpq.out.c3
    have q3 := Qdpq.out.c3
    refine bodyPost_ret (v := .tuple #[.agg #[.int .i64 a.k, .int .i64 a.n, .string a.s, .slice ao an ac], .agg #[.int .i64 a.k, .int .i64 a.n, .string a.s, .slice ao an ac]]) ?_ rfl ⟨a, a, .slice ao an ac, .slice ao an ac, rfl, ⟨⟨HDa.out, HDa.out⟩, HEadpq.out.low (by omega), HEadpq.out.low (by omega)⟩, HLdpq.out⟩
    generalize ((((wy.setCell ⟨w.heap.size + 1, 0, none⟩ (.int .i64 a.k)).setCell ⟨w.heap.size + 1, 1, none⟩ (.int .i64 a.n)).setCell ⟨w.heap.size + 1, 2, none⟩ (.string a.s)).setCell ⟨w.heap.size + 1, 3, none⟩ (.slice ao an ac)) = W at p0 q0 p1 q1 p2 q2 p3 q3
    simp [results, Try.results5, go_sem, p0, q0, p1, q1, p2, q2, p3, q3]
  | false =>
    have hld : m ≤ w4.drew.heap.size + 1 := by have := HXd.out.lt; omega
    go_wp2_with fail
    refine wp_region_held_drew (S := fun w' => w'.cell? ⟨ab, 0, none⟩ = some (.int .i64 a.k) ∧ w'.cell? ⟨ab, 1, none⟩ = some (.int .i64 a.n) ∧ w'.cell? ⟨ab, 2, none⟩ = some (.string a.s) ∧ w'.cell? ⟨ab, 3, none⟩ = some (.slice ao an ac)) (by kernel_rfl) ⟨HXd.out.c0, HXd.out.c1, HXd.out.c2, HXd.out.c3⟩ (fun _ => ?_)
    generalize w4.drew = wd at *
    refine takeHD (i := 0) (v := .agg #[.int .i64 a.k, .int .i64 a.n, .string a.s, .slice ao an ac]) (some 14) rfl rfl (by kernel_rfl) (by kernel_rfl) (by kernel_rfl) (fun _ _ _ h => h) (Or.inl ⟨by kernel_rfl, fun w' hw => ?_⟩) ⟨HXd.out.c0, HXd.out.c1, HXd.out.c2, HXd.out.c3⟩ ?_
    · obtain ⟨y0, y1, y2, y3⟩ := hw; go_simp
    simp only [Act.put, List.setIfInBounds_toArray]
    refine takeHD (i := 1) (v := .pointer (some ⟨cb, 0, none⟩)) (some 15) rfl rfl (by kernel_rfl) (by kernel_rfl) (by kernel_rfl) (fun _ _ _ h => h) (Or.inl ⟨by kernel_rfl, fun w' hw => ?_⟩) ⟨HXd.out.c0, HXd.out.c1, HXd.out.c2, HXd.out.c3⟩ ?_
    · kernel_rfl
    simp only [Act.put, List.setIfInBounds_toArray]
    refine wpAnyH_ready (rs := [2]) (by kernel_rfl) (by simp) ?_
    refine AllReadyH.cons rfl (fun K hK => ?_) AllReadyH.nil
    rw [if_pos (by kernel_rfl)]
    go_wp2_with fail
    refine (l8Any_any cb v zs _ HCd.out).mono ?_
    rintro e w6 ⟨b, u, rfl, hd, he, hC, hg⟩
    obtain ⟨bo, bn, bc, rfl⟩ : ∃ o n c, u = .slice o n c := by obtain ⟨o, c, h, -⟩ := he.len; exact ⟨_, _, _, h⟩
    have hs6 := hg.size
    have Pe := Hid.mk (Pd.out.row hg (fun g e => by cases e; omega))
    have Qe := Hid.mk (Qd.out.row hg (fun g e => by cases e; omega))
    have HXe := Hid.mk (HXd.out.row hg (fun g e => by cases e; omega))
    have HEae : Hid (El w6 (nf w6 m) a.l (.slice ao an ac)) := HEad.out.by hg (by omega)
    have HEbe : Hid (El w6 (nf w6 m) b.l (.slice bo bn bc)) := he.low (m := m) (by omega)
    have HDb := Hid.mk hd
    have HLe := Hid.mk (low_of HLd.out hg (by omega))
    refine hK.out _ _ ⟨HXe.out.c0, HXe.out.c1, HXe.out.c2, HXe.out.c3⟩ (fun _ => ?_)
    clear hK K hd he hC hg Pd Qd HXd HEad HCd HLd
    refine wpAnyH_ready (rs := [3]) (by kernel_rfl) (by simp) ?_
    refine AllReadyH.cons rfl (fun K hK => ?_) AllReadyH.nil
    have z0 := Pe.out.c0
    have z1 := Pe.out.c1
    have z2 := Pe.out.c2
    have z3 := Pe.out.c3
    have zf := Pe.out.fr
    rw [if_pos (by kernel_rfl)]
    go_wp2_with fail
    have G : w6.grownBy ((((w6.setCell ⟨w.heap.size, 0, none⟩ (.int .i64 a.k)).setCell ⟨w.heap.size, 1, none⟩ (.int .i64 a.n)).setCell ⟨w.heap.size, 2, none⟩ (.string a.s)).setCell ⟨w.heap.size, 3, none⟩ (.slice ao an ac)) (some w.heap.size) := set4_by w6 w.heap.size (.int .i64 a.k) (.int .i64 a.n) (.string a.s) (.slice ao an ac)
    have Pep : Hid (Bz4 ((((w6.setCell ⟨w.heap.size, 0, none⟩ (.int .i64 a.k)).setCell ⟨w.heap.size, 1, none⟩ (.int .i64 a.n)).setCell ⟨w.heap.size, 2, none⟩ (.string a.s)).setCell ⟨w.heap.size, 3, none⟩ (.slice ao an ac)) w.heap.size (.int .i64 a.k) (.int .i64 a.n) (.string a.s) (.slice ao an ac)) := Pe.out.four (.int .i64 a.k) (.int .i64 a.n) (.string a.s) (.slice ao an ac)
    have Qep := Hid.mk (Qe.out.row G (fun g e => by cases e; omega))
    have HXep := Hid.mk (HXe.out.row G (fun g e => by cases e; omega))
    have HEaep : Hid (El ((((w6.setCell ⟨w.heap.size, 0, none⟩ (.int .i64 a.k)).setCell ⟨w.heap.size, 1, none⟩ (.int .i64 a.n)).setCell ⟨w.heap.size, 2, none⟩ (.string a.s)).setCell ⟨w.heap.size, 3, none⟩ (.slice ao an ac)) (nf ((((w6.setCell ⟨w.heap.size, 0, none⟩ (.int .i64 a.k)).setCell ⟨w.heap.size, 1, none⟩ (.int .i64 a.n)).setCell ⟨w.heap.size, 2, none⟩ (.string a.s)).setCell ⟨w.heap.size, 3, none⟩ (.slice ao an ac)) m) a.l (.slice ao an ac)) := HEae.out.by G (by omega)
    have HEbep : Hid (El ((((w6.setCell ⟨w.heap.size, 0, none⟩ (.int .i64 a.k)).setCell ⟨w.heap.size, 1, none⟩ (.int .i64 a.n)).setCell ⟨w.heap.size, 2, none⟩ (.string a.s)).setCell ⟨w.heap.size, 3, none⟩ (.slice ao an ac)) (nf ((((w6.setCell ⟨w.heap.size, 0, none⟩ (.int .i64 a.k)).setCell ⟨w.heap.size, 1, none⟩ (.int .i64 a.n)).setCell ⟨w.heap.size, 2, none⟩ (.string a.s)).setCell ⟨w.heap.size, 3, none⟩ (.slice ao an ac)) m) b.l (.slice bo bn bc)) := HEbe.out.by G (by omega)
    have HLep := Hid.mk (low_of HLe.out G (by omega))
    refine hK.out _ _ ⟨HXep.out.c0, HXep.out.c1, HXep.out.c2, HXep.out.c3⟩ (fun _ => ?_)
    clear hK K z0 z1 z2 z3 Pe Qe HXe HEae HLe G zf HEbe
    generalize ((((w6.setCell ⟨w.heap.size, 0, none⟩ (.int .i64 a.k)).setCell ⟨w.heap.size, 1, none⟩ (.int .i64 a.n)).setCell ⟨w.heap.size, 2, none⟩ (.string a.s)).setCell ⟨w.heap.size, 3, none⟩ (.slice ao an ac)) = wy at *
    refine wpAnyH_ready (rs := [4]) (by kernel_rfl) (by simp) ?_
    refine AllReadyH.cons rfl (fun K hK => ?_) AllReadyH.nil
    have z0 := Qep.out.c0
    have z1 := Qep.out.c1
    have z2 := Qep.out.c2
    have z3 := Qep.out.c3
    have zf := Qep.out.fr
    rw [if_pos (by kernel_rfl)]
    go_wp2_with fail
    have G : wy.grownBy ((((wy.setCell ⟨w.heap.size + 1, 0, none⟩ (.int .i64 b.k)).setCell ⟨w.heap.size + 1, 1, none⟩ (.int .i64 b.n)).setCell ⟨w.heap.size + 1, 2, none⟩ (.string b.s)).setCell ⟨w.heap.size + 1, 3, none⟩ (.slice bo bn bc)) (some (w.heap.size + 1)) := set4_by wy (w.heap.size + 1) (.int .i64 b.k) (.int .i64 b.n) (.string b.s) (.slice bo bn bc)
    have Qepq : Hid (Bz4 ((((wy.setCell ⟨w.heap.size + 1, 0, none⟩ (.int .i64 b.k)).setCell ⟨w.heap.size + 1, 1, none⟩ (.int .i64 b.n)).setCell ⟨w.heap.size + 1, 2, none⟩ (.string b.s)).setCell ⟨w.heap.size + 1, 3, none⟩ (.slice bo bn bc)) (w.heap.size + 1) (.int .i64 b.k) (.int .i64 b.n) (.string b.s) (.slice bo bn bc)) := Qep.out.four (.int .i64 b.k) (.int .i64 b.n) (.string b.s) (.slice bo bn bc)
    have Pepq := Hid.mk (Pep.out.row G (fun g e => by cases e; omega))
    have HXepq := Hid.mk (HXep.out.row G (fun g e => by cases e; omega))
    have HEaepq : Hid (El ((((wy.setCell ⟨w.heap.size + 1, 0, none⟩ (.int .i64 b.k)).setCell ⟨w.heap.size + 1, 1, none⟩ (.int .i64 b.n)).setCell ⟨w.heap.size + 1, 2, none⟩ (.string b.s)).setCell ⟨w.heap.size + 1, 3, none⟩ (.slice bo bn bc)) (nf ((((wy.setCell ⟨w.heap.size + 1, 0, none⟩ (.int .i64 b.k)).setCell ⟨w.heap.size + 1, 1, none⟩ (.int .i64 b.n)).setCell ⟨w.heap.size + 1, 2, none⟩ (.string b.s)).setCell ⟨w.heap.size + 1, 3, none⟩ (.slice bo bn bc)) m) a.l (.slice ao an ac)) := HEaep.out.by G (by omega)
    have HEbepq : Hid (El ((((wy.setCell ⟨w.heap.size + 1, 0, none⟩ (.int .i64 b.k)).setCell ⟨w.heap.size + 1, 1, none⟩ (.int .i64 b.n)).setCell ⟨w.heap.size + 1, 2, none⟩ (.string b.s)).setCell ⟨w.heap.size + 1, 3, none⟩ (.slice bo bn bc)) (nf ((((wy.setCell ⟨w.heap.size + 1, 0, none⟩ (.int .i64 b.k)).setCell ⟨w.heap.size + 1, 1, none⟩ (.int .i64 b.n)).setCell ⟨w.heap.size + 1, 2, none⟩ (.string b.s)).setCell ⟨w.heap.size + 1, 3, none⟩ (.slice bo bn bc)) m) b.l (.slice bo bn bc)) := HEbep.out.by G (by omega)
    have HLepq := Hid.mk (low_of HLep.out G (by omega))
    refine hK.out _ _ ⟨HXepq.out.c0, HXepq.out.c1, HXepq.out.c2, HXepq.out.c3⟩ (fun _ => ?_)
    clear hK K z0 z1 z2 z3 Pep Qep HXep HEaep HLep G zf HEbep
    refine wpAnyH_done (by kernel_rfl) ?_ _
    go_wp2
    have p0 := Pepq.out.c0
    have q0 := Qepq.out.c0
    have p1 := Pepq.out.c1
    have q1 := Qepq.out.c1
    have p2 := Pepq.out.c2
    have q2 := Qepq.out.c2
    have p3 := Pepq.out.c3
    have q3 := Qepq.out.c3
    refine bodyPost_ret (v := .tuple #[.agg #[.int .i64 a.k, .int .i64 a.n, .string a.s, .slice ao an ac], .agg #[.int .i64 b.k, .int .i64 b.n, .string b.s, .slice bo bn bc]]) ?_ rfl ⟨a, b, .slice ao an ac, .slice bo bn bc, rfl, ⟨⟨HDa.out, HDb.out⟩, HEaepq.out.low (by omega), HEbepq.out.low (by omega)⟩, HLepq.out⟩
    generalize ((((wy.setCell ⟨w.heap.size + 1, 0, none⟩ (.int .i64 b.k)).setCell ⟨w.heap.size + 1, 1, none⟩ (.int .i64 b.n)).setCell ⟨w.heap.size + 1, 2, none⟩ (.string b.s)).setCell ⟨w.heap.size + 1, 3, none⟩ (.slice bo bn bc)) = W at p0 q0 p1 q1 p2 q2 p3 q3
    simp [results, Try.results5, go_sem, p0, q0, p1, q1, p2, q2, p3, q3]
set_option maxHeartbeats 4000000 in
theorem drawSameStmt_any (v : Value) (zs : List Int) (w : World) (h : Bs w v zs) (hlen : zs.length ≤ 1048576) :
    Calls Try.prog 6 #[v] w fun e w' => ∃ A B : Yv, e = .returned (.tuple #[st A.t.k A.t.s A.t.t A.x A.a A.b, st B.t.k B.t.s B.t.t B.x B.a B.b]) ∧ TwoY w' w.heap.size A B ∧ Below w.heap.size w w' := by
  have A1 : Below w.heap.size w ((w.alloc (.cells #[.int .i64 0, .string ⟨#[]⟩, .string ⟨#[]⟩, .slice none 0 0, .slice none 0 0, .slice none 0 0] 31)).alloc (.cells #[.int .i64 0, .string ⟨#[]⟩, .string ⟨#[]⟩, .slice none 0 0, .slice none 0 0, .slice none 0 0] 31)) := ((Below.refl _ _).alloc (Nat.le_refl _) _).alloc (by simp) _
  have H := Hid.mk (h.grow A1)
  have A2 : Below (w.alloc (.cells #[.int .i64 0, .string ⟨#[]⟩, .string ⟨#[]⟩, .slice none 0 0, .slice none 0 0, .slice none 0 0] 31)).heap.size (w.alloc (.cells #[.int .i64 0, .string ⟨#[]⟩, .string ⟨#[]⟩, .slice none 0 0, .slice none 0 0, .slice none 0 0] 31)) ((w.alloc (.cells #[.int .i64 0, .string ⟨#[]⟩, .string ⟨#[]⟩, .slice none 0 0, .slice none 0 0, .slice none 0 0] 31)).alloc (.cells #[.int .i64 0, .string ⟨#[]⟩, .string ⟨#[]⟩, .slice none 0 0, .slice none 0 0, .slice none 0 0] 31)) := (Below.refl _ _).alloc (Nat.le_refl _) _
  have P0 := Hid.mk ((Bz6.new w (.int .i64 0) (.string ⟨#[]⟩) (.string ⟨#[]⟩) (.slice none 0 0) (.slice none 0 0) (.slice none 0 0)).grow A2)
  have Q0 : Hid (Bz6 ((w.alloc (.cells #[.int .i64 0, .string ⟨#[]⟩, .string ⟨#[]⟩, .slice none 0 0, .slice none 0 0, .slice none 0 0] 31)).alloc (.cells #[.int .i64 0, .string ⟨#[]⟩, .string ⟨#[]⟩, .slice none 0 0, .slice none 0 0, .slice none 0 0] 31)) (w.heap.size + 1) (.int .i64 0) (.string ⟨#[]⟩) (.string ⟨#[]⟩) (.slice none 0 0) (.slice none 0 0) (.slice none 0 0)) := by
    have := Bz6.new (w.alloc (.cells #[.int .i64 0, .string ⟨#[]⟩, .string ⟨#[]⟩, .slice none 0 0, .slice none 0 0, .slice none 0 0] 31)) (.int .i64 0) (.string ⟨#[]⟩) (.string ⟨#[]⟩) (.slice none 0 0) (.slice none 0 0) (.slice none 0 0)
    simpa [Hid] using this
  have S0 : ((w.alloc (.cells #[.int .i64 0, .string ⟨#[]⟩, .string ⟨#[]⟩, .slice none 0 0, .slice none 0 0, .slice none 0 0] 31)).alloc (.cells #[.int .i64 0, .string ⟨#[]⟩, .string ⟨#[]⟩, .slice none 0 0, .slice none 0 0, .slice none 0 0] 31)).heap.size = w.heap.size + 2 := by simp
  have HL0 := Hid.mk A1
  clear h A1 A2
  go_enter Try.func6, Try.ntmps6
  go_wp2_with fail
  generalize (w.alloc (.cells #[.int .i64 0, .string ⟨#[]⟩, .string ⟨#[]⟩, .slice none 0 0, .slice none 0 0, .slice none 0 0] 31)).alloc (.cells #[.int .i64 0, .string ⟨#[]⟩, .string ⟨#[]⟩, .slice none 0 0, .slice none 0 0, .slice none 0 0] 31) = W0 at *
  refine (l1New_any v zs W0 H.out hlen).mono ?_
  rintro e w1 ⟨rfl, hC1, hb1⟩
  have P1 := Hid.mk (P0.out.grow hb1)
  have Q1 := Hid.mk (Q0.out.grow hb1)
  have HL1 := Hid.mk (HL0.out.trans (hb1.mono (by omega)))
  have HC1 := Hid.mk hC1
  rw [S0] at HC1 ⊢
  obtain ⟨cb, hcb⟩ : ∃ c, w.heap.size + 2 = c := ⟨_, rfl⟩
  rw [hcb] at HC1 ⊢
  clear hC1 hb1 P0 Q0 HL0 H S0
  have hc1 := HC1.out.lt
  go_wp2_with fail
  refine (l9Any_any cb v zs w1 HC1.out).mono ?_
  rintro e w2 ⟨⟨a, ux, uy, uz⟩, rfl, hd, he, hC, hg⟩
  obtain ⟨ao, an, ac, rfl⟩ : ∃ o n c, ux = .slice o n c := by obtain ⟨o, c, h, -⟩ := he.1.len; exact ⟨_, _, _, h⟩
  obtain ⟨ayo, ayn, ayc, rfl⟩ : ∃ o n c, uy = .slice o n c := by obtain ⟨o, c, h, -⟩ := he.2.1.len; exact ⟨_, _, _, h⟩
  obtain ⟨azo, azn, azc, rfl⟩ : ∃ o n c, uz = .slice o n c := by obtain ⟨o, c, h, -⟩ := he.2.2.len; exact ⟨_, _, _, h⟩
  simp only at hd
  obtain ⟨m, hm⟩ : ∃ m, w1.heap.size + 1 = m := ⟨_, rfl⟩
  rw [hm] at he
  have A3 : Below w2.heap.size w2 (w2.alloc (.cells #[.int .i64 a.k, .string a.s, .string a.t, .slice ao an ac, .slice ayo ayn ayc, .slice azo azn azc] 31)) := (Below.refl _ _).alloc (Nat.le_refl _) _
  have hs2 := hg.size
  have P2 := Hid.mk ((P1.out.row hg (fun g e => by cases e; omega)).grow A3)
  have Q2 := Hid.mk ((Q1.out.row hg (fun g e => by cases e; omega)).grow A3)
  have HX2 := Hid.mk (Bz6.new w2 (.int .i64 a.k) (.string a.s) (.string a.t) (.slice ao an ac) (.slice ayo ayn ayc) (.slice azo azn azc))
  have HEa2 : Hid (YRd (w2.alloc (.cells #[.int .i64 a.k, .string a.s, .string a.t, .slice ao an ac, .slice ayo ayn ayc, .slice azo azn azc] 31)) m none ⟨a, .slice ao an ac, .slice ayo ayn ayc, .slice azo azn azc⟩) := he.kept (fun b _ hn hlt => ⟨(A3).block b hlt, hn⟩)
  have HDa := Hid.mk hd
  have HC2 := Hid.mk (hC.grow A3)
  have HL2 := Hid.mk ((low_of HL1.out hg (by omega)).trans (A3.mono (by have := (low_of HL1.out hg (by omega)).size; omega)))
  clear hd he hC hg P1 Q1 HC1 HL1 A3
  go_wp2_with fail
  obtain ⟨ab, hab⟩ : ∃ c, w2.heap.size = c := ⟨_, rfl⟩
  rw [hab] at HX2 hs2
  generalize w2.alloc (.cells #[.int .i64 a.k, .string a.s, .string a.t, .slice ao an ac, .slice ayo ayn ayc, .slice azo azn azc] 31) = w3 at *
  simp only [hab] at *
  refine (l1Once_any cb v zs 2 _ HC2.out).mono ?_
  rintro e w4 ⟨x, rfl, hC, hg⟩
  have P4 := Hid.mk (P2.out.row hg (fun g e => by cases e; omega))
  have Q4 := Hid.mk (Q2.out.row hg (fun g e => by cases e; omega))
  have HX4 := Hid.mk (HX2.out.row hg (fun g e => by cases e; omega))
  have HEa4 : Hid (YRd w4 m none ⟨a, .slice ao an ac, .slice ayo ayn ayc, .slice azo azn azc⟩) := yrd_byN HEa2.out hg (by omega)
  have HC4 := Hid.mk hC
  have HL4 := Hid.mk (low_of HL2.out hg (by omega))
  clear hC hg P2 Q2 HX2 HEa2 HC2 HL2 hab
  have Pd := Hid.mk (P4.out.grow (drewB _ w4))
  have Qd := Hid.mk (Q4.out.grow (drewB _ w4))
  have HXd := Hid.mk (HX4.out.grow (drewB _ w4))
  have HEad : Hid (YRd w4.drew m none ⟨a, .slice ao an ac, .slice ayo ayn ayc, .slice azo azn azc⟩) := HEa4.out.kept (fun b _ hn hlt => ⟨((drewB _ w4)).block b hlt, hn⟩)
  have HCd := Hid.mk (HC4.out.grow (drewB _ w4))
  have HLd := Hid.mk (HL4.out.trans (drewB _ w4))
  clear P4 Q4 HX4 HEa4 HC4 HL4
  cases x with
  | true =>
    go_wp2_with fail
    refine wp_region_held_drew (S := fun w' => w'.cell? ⟨ab, 0, none⟩ = some (.int .i64 a.k) ∧ w'.cell? ⟨ab, 1, none⟩ = some (.string a.s) ∧ w'.cell? ⟨ab, 2, none⟩ = some (.string a.t) ∧ w'.cell? ⟨ab, 3, none⟩ = some (.slice ao an ac) ∧ w'.cell? ⟨ab, 4, none⟩ = some (.slice ayo ayn ayc) ∧ w'.cell? ⟨ab, 5, none⟩ = some (.slice azo azn azc)) (by kernel_rfl) ⟨HXd.out.c0, HXd.out.c1, HXd.out.c2, HXd.out.c3, HXd.out.c4, HXd.out.c5⟩ (fun _ => ?_)
    generalize w4.drew = wd at *
    refine takeHD (i := 0) (v := .agg #[.int .i64 a.k, .string a.s, .string a.t, .slice ao an ac, .slice ayo ayn ayc, .slice azo azn azc]) (some 12) rfl rfl (by kernel_rfl) (by kernel_rfl) (by kernel_rfl) (fun _ _ _ h => h) (Or.inl ⟨by kernel_rfl, fun w' hw => ?_⟩) ⟨HXd.out.c0, HXd.out.c1, HXd.out.c2, HXd.out.c3, HXd.out.c4, HXd.out.c5⟩ ?_
    · obtain ⟨y0, y1, y2, y3, y4, y5⟩ := hw; go_simp
    simp only [Act.put, List.setIfInBounds_toArray]
    refine takeHD (i := 1) (v := .agg #[.int .i64 a.k, .string a.s, .string a.t, .slice ao an ac, .slice ayo ayn ayc, .slice azo azn azc]) (some 13) rfl rfl (by kernel_rfl) (by kernel_rfl) (by kernel_rfl) (fun _ _ _ h => h) (Or.inl ⟨by kernel_rfl, fun w' hw => ?_⟩) ⟨HXd.out.c0, HXd.out.c1, HXd.out.c2, HXd.out.c3, HXd.out.c4, HXd.out.c5⟩ ?_
    · obtain ⟨y0, y1, y2, y3, y4, y5⟩ := hw; go_simp
    simp only [Act.put, List.setIfInBounds_toArray]
    refine wpAnyH_ready (rs := [2]) (by kernel_rfl) (by simp) ?_
    refine AllReadyH.cons rfl (fun K hK => ?_) AllReadyH.nil
    have z0 := Pd.out.c0
    have z1 := Pd.out.c1
    have z2 := Pd.out.c2
    have z3 := Pd.out.c3
    have z4 := Pd.out.c4
    have z5 := Pd.out.c5
    have zf := Pd.out.fr
    rw [if_pos (by kernel_rfl)]
    go_wp2_with fail
    have G : wd.grownBy ((((((wd.setCell ⟨w.heap.size, 0, none⟩ (.int .i64 a.k)).setCell ⟨w.heap.size, 1, none⟩ (.string a.s)).setCell ⟨w.heap.size, 2, none⟩ (.string a.t)).setCell ⟨w.heap.size, 3, none⟩ (.slice ao an ac)).setCell ⟨w.heap.size, 4, none⟩ (.slice ayo ayn ayc)).setCell ⟨w.heap.size, 5, none⟩ (.slice azo azn azc)) (some w.heap.size) := box6_by wd w.heap.size (.int .i64 a.k) (.string a.s) (.string a.t) (.slice ao an ac) (.slice ayo ayn ayc) (.slice azo azn azc)
    have Pdp : Hid (Bz6 ((((((wd.setCell ⟨w.heap.size, 0, none⟩ (.int .i64 a.k)).setCell ⟨w.heap.size, 1, none⟩ (.string a.s)).setCell ⟨w.heap.size, 2, none⟩ (.string a.t)).setCell ⟨w.heap.size, 3, none⟩ (.slice ao an ac)).setCell ⟨w.heap.size, 4, none⟩ (.slice ayo ayn ayc)).setCell ⟨w.heap.size, 5, none⟩ (.slice azo azn azc)) w.heap.size (.int .i64 a.k) (.string a.s) (.string a.t) (.slice ao an ac) (.slice ayo ayn ayc) (.slice azo azn azc)) := Pd.out.six (.int .i64 a.k) (.string a.s) (.string a.t) (.slice ao an ac) (.slice ayo ayn ayc) (.slice azo azn azc)
    have Qdp := Hid.mk (Qd.out.row G (fun g e => by cases e; omega))
    have HXdp := Hid.mk (HXd.out.row G (fun g e => by cases e; omega))
    have HEadp : Hid (YRd ((((((wd.setCell ⟨w.heap.size, 0, none⟩ (.int .i64 a.k)).setCell ⟨w.heap.size, 1, none⟩ (.string a.s)).setCell ⟨w.heap.size, 2, none⟩ (.string a.t)).setCell ⟨w.heap.size, 3, none⟩ (.slice ao an ac)).setCell ⟨w.heap.size, 4, none⟩ (.slice ayo ayn ayc)).setCell ⟨w.heap.size, 5, none⟩ (.slice azo azn azc)) m none ⟨a, .slice ao an ac, .slice ayo ayn ayc, .slice azo azn azc⟩) := yrd_byN HEad.out G (by omega)
    have HLdp := Hid.mk (low_of HLd.out G (by omega))
    refine hK.out _ _ ⟨HXdp.out.c0, HXdp.out.c1, HXdp.out.c2, HXdp.out.c3, HXdp.out.c4, HXdp.out.c5⟩ (fun _ => ?_)
    clear hK K z0 z1 z2 z3 z4 z5 Pd Qd HXd HEad HLd G zf
    generalize ((((((wd.setCell ⟨w.heap.size, 0, none⟩ (.int .i64 a.k)).setCell ⟨w.heap.size, 1, none⟩ (.string a.s)).setCell ⟨w.heap.size, 2, none⟩ (.string a.t)).setCell ⟨w.heap.size, 3, none⟩ (.slice ao an ac)).setCell ⟨w.heap.size, 4, none⟩ (.slice ayo ayn ayc)).setCell ⟨w.heap.size, 5, none⟩ (.slice azo azn azc)) = wy at *
    refine wpAnyH_ready (rs := [3]) (by kernel_rfl) (by simp) ?_
    refine AllReadyH.cons rfl (fun K hK => ?_) AllReadyH.nil
    have z0 := Qdp.out.c0
    have z1 := Qdp.out.c1
    have z2 := Qdp.out.c2
    have z3 := Qdp.out.c3
    have z4 := Qdp.out.c4
    have z5 := Qdp.out.c5
    have zf := Qdp.out.fr
    rw [if_pos (by kernel_rfl)]
    go_wp2_with fail
    have G : wy.grownBy ((((((wy.setCell ⟨w.heap.size + 1, 0, none⟩ (.int .i64 a.k)).setCell ⟨w.heap.size + 1, 1, none⟩ (.string a.s)).setCell ⟨w.heap.size + 1, 2, none⟩ (.string a.t)).setCell ⟨w.heap.size + 1, 3, none⟩ (.slice ao an ac)).setCell ⟨w.heap.size + 1, 4, none⟩ (.slice ayo ayn ayc)).setCell ⟨w.heap.size + 1, 5, none⟩ (.slice azo azn azc)) (some (w.heap.size + 1)) := box6_by wy (w.heap.size + 1) (.int .i64 a.k) (.string a.s) (.string a.t) (.slice ao an ac) (.slice ayo ayn ayc) (.slice azo azn azc)
    have Qdpq : Hid (Bz6 ((((((wy.setCell ⟨w.heap.size + 1, 0, none⟩ (.int .i64 a.k)).setCell ⟨w.heap.size + 1, 1, none⟩ (.string a.s)).setCell ⟨w.heap.size + 1, 2, none⟩ (.string a.t)).setCell ⟨w.heap.size + 1, 3, none⟩ (.slice ao an ac)).setCell ⟨w.heap.size + 1, 4, none⟩ (.slice ayo ayn ayc)).setCell ⟨w.heap.size + 1, 5, none⟩ (.slice azo azn azc)) (w.heap.size + 1) (.int .i64 a.k) (.string a.s) (.string a.t) (.slice ao an ac) (.slice ayo ayn ayc) (.slice azo azn azc)) := Qdp.out.six (.int .i64 a.k) (.string a.s) (.string a.t) (.slice ao an ac) (.slice ayo ayn ayc) (.slice azo azn azc)
    have Pdpq := Hid.mk (Pdp.out.row G (fun g e => by cases e; omega))
    have HXdpq := Hid.mk (HXdp.out.row G (fun g e => by cases e; omega))
    have HEadpq : Hid (YRd ((((((wy.setCell ⟨w.heap.size + 1, 0, none⟩ (.int .i64 a.k)).setCell ⟨w.heap.size + 1, 1, none⟩ (.string a.s)).setCell ⟨w.heap.size + 1, 2, none⟩ (.string a.t)).setCell ⟨w.heap.size + 1, 3, none⟩ (.slice ao an ac)).setCell ⟨w.heap.size + 1, 4, none⟩ (.slice ayo ayn ayc)).setCell ⟨w.heap.size + 1, 5, none⟩ (.slice azo azn azc)) m none ⟨a, .slice ao an ac, .slice ayo ayn ayc, .slice azo azn azc⟩) := yrd_byN HEadp.out G (by omega)
    have HLdpq := Hid.mk (low_of HLdp.out G (by omega))
    refine hK.out _ _ ⟨HXdpq.out.c0, HXdpq.out.c1, HXdpq.out.c2, HXdpq.out.c3, HXdpq.out.c4, HXdpq.out.c5⟩ (fun _ => ?_)
    clear hK K z0 z1 z2 z3 z4 z5 Pdp Qdp HXdp HEadp HLdp G zf
    refine wpAnyH_done (by kernel_rfl) ?_ _
    go_wp2
    have p0 := Pdpq.out.c0
    have q0 := Qdpq.out.c0
    have p1 := Pdpq.out.c1
    have q1 := Qdpq.out.c1
    have p2 := Pdpq.out.c2
    have q2 := Qdpq.out.c2
    have p3 := Pdpq.out.c3
    have q3 := Qdpq.out.c3
    have p4 := Pdpq.out.c4
    have q4 := Qdpq.out.c4
    have p5 := Pdpq.out.c5
    have q5 := Qdpq.out.c5
    refine bodyPost_ret (v := .tuple #[.agg #[.int .i64 a.k, .string a.s, .string a.t, .slice ao an ac, .slice ayo ayn ayc, .slice azo azn azc], .agg #[.int .i64 a.k, .string a.s, .string a.t, .slice ao an ac, .slice ayo ayn ayc, .slice azo azn azc]]) ?_ rfl ⟨⟨a, .slice ao an ac, .slice ayo ayn ayc, .slice azo azn azc⟩, ⟨a, .slice ao an ac, .slice ayo ayn ayc, .slice azo azn azc⟩, rfl, ⟨⟨HDa.out, HDa.out⟩, yrd_low HEadpq.out (by omega), yrd_low HEadpq.out (by omega)⟩, HLdpq.out⟩
    generalize ((((((wy.setCell ⟨w.heap.size + 1, 0, none⟩ (.int .i64 a.k)).setCell ⟨w.heap.size + 1, 1, none⟩ (.string a.s)).setCell ⟨w.heap.size + 1, 2, none⟩ (.string a.t)).setCell ⟨w.heap.size + 1, 3, none⟩ (.slice ao an ac)).setCell ⟨w.heap.size + 1, 4, none⟩ (.slice ayo ayn ayc)).setCell ⟨w.heap.size + 1, 5, none⟩ (.slice azo azn azc)) = W at p0 q0 p1 q1 p2 q2 p3 q3 p4 q4 p5 q5
    simp [results, Try.results6, go_sem, p0, q0, p1, q1, p2, q2, p3, q3, p4, q4, p5, q5]
  | false =>
    have hld : m ≤ w4.drew.heap.size + 1 := by have := HXd.out.lt; omega
    go_wp2_with fail
    refine wp_region_held_drew (S := fun w' => w'.cell? ⟨ab, 0, none⟩ = some (.int .i64 a.k) ∧ w'.cell? ⟨ab, 1, none⟩ = some (.string a.s) ∧ w'.cell? ⟨ab, 2, none⟩ = some (.string a.t) ∧ w'.cell? ⟨ab, 3, none⟩ = some (.slice ao an ac) ∧ w'.cell? ⟨ab, 4, none⟩ = some (.slice ayo ayn ayc) ∧ w'.cell? ⟨ab, 5, none⟩ = some (.slice azo azn azc)) (by kernel_rfl) ⟨HXd.out.c0, HXd.out.c1, HXd.out.c2, HXd.out.c3, HXd.out.c4, HXd.out.c5⟩ (fun _ => ?_)
    generalize w4.drew = wd at *
    refine takeHD (i := 0) (v := .agg #[.int .i64 a.k, .string a.s, .string a.t, .slice ao an ac, .slice ayo ayn ayc, .slice azo azn azc]) (some 14) rfl rfl (by kernel_rfl) (by kernel_rfl) (by kernel_rfl) (fun _ _ _ h => h) (Or.inl ⟨by kernel_rfl, fun w' hw => ?_⟩) ⟨HXd.out.c0, HXd.out.c1, HXd.out.c2, HXd.out.c3, HXd.out.c4, HXd.out.c5⟩ ?_
    · obtain ⟨y0, y1, y2, y3, y4, y5⟩ := hw; go_simp
    simp only [Act.put, List.setIfInBounds_toArray]
    refine takeHD (i := 1) (v := .pointer (some ⟨cb, 0, none⟩)) (some 15) rfl rfl (by kernel_rfl) (by kernel_rfl) (by kernel_rfl) (fun _ _ _ h => h) (Or.inl ⟨by kernel_rfl, fun w' hw => ?_⟩) ⟨HXd.out.c0, HXd.out.c1, HXd.out.c2, HXd.out.c3, HXd.out.c4, HXd.out.c5⟩ ?_
    · kernel_rfl
    simp only [Act.put, List.setIfInBounds_toArray]
    refine wpAnyH_ready (rs := [2]) (by kernel_rfl) (by simp) ?_
    refine AllReadyH.cons rfl (fun K hK => ?_) AllReadyH.nil
    rw [if_pos (by kernel_rfl)]
    go_wp2_with fail
    refine (l9Any_any cb v zs _ HCd.out).mono ?_
    rintro e w6 ⟨⟨b, ux, uy, uz⟩, rfl, hd, he, hC, hg⟩
    obtain ⟨bo, bn, bc, rfl⟩ : ∃ o n c, ux = .slice o n c := by obtain ⟨o, c, h, -⟩ := he.1.len; exact ⟨_, _, _, h⟩
    obtain ⟨byo, byn, byc, rfl⟩ : ∃ o n c, uy = .slice o n c := by obtain ⟨o, c, h, -⟩ := he.2.1.len; exact ⟨_, _, _, h⟩
    obtain ⟨bzo, bzn, bzc, rfl⟩ : ∃ o n c, uz = .slice o n c := by obtain ⟨o, c, h, -⟩ := he.2.2.len; exact ⟨_, _, _, h⟩
    simp only at hd
    have hs6 := hg.size
    have Pe := Hid.mk (Pd.out.row hg (fun g e => by cases e; omega))
    have Qe := Hid.mk (Qd.out.row hg (fun g e => by cases e; omega))
    have HXe := Hid.mk (HXd.out.row hg (fun g e => by cases e; omega))
    have HEae : Hid (YRd w6 m none ⟨a, .slice ao an ac, .slice ayo ayn ayc, .slice azo azn azc⟩) := yrd_byN HEad.out hg (by omega)
    have HEbe : Hid (YRd w6 m none ⟨b, .slice bo bn bc, .slice byo byn byc, .slice bzo bzn bzc⟩) := yrd_low he (m := m) (by omega)
    have HDb := Hid.mk hd
    have HLe := Hid.mk (low_of HLd.out hg (by omega))
    refine hK.out _ _ ⟨HXe.out.c0, HXe.out.c1, HXe.out.c2, HXe.out.c3, HXe.out.c4, HXe.out.c5⟩ (fun _ => ?_)
    clear hK K hd he hC hg Pd Qd HXd HEad HCd HLd
    refine wpAnyH_ready (rs := [3]) (by kernel_rfl) (by simp) ?_
    refine AllReadyH.cons rfl (fun K hK => ?_) AllReadyH.nil
    have z0 := Pe.out.c0
    have z1 := Pe.out.c1
    have z2 := Pe.out.c2
    have z3 := Pe.out.c3
    have z4 := Pe.out.c4
    have z5 := Pe.out.c5
    have zf := Pe.out.fr
    rw [if_pos (by kernel_rfl)]
    go_wp2_with fail
    have G : w6.grownBy ((((((w6.setCell ⟨w.heap.size, 0, none⟩ (.int .i64 a.k)).setCell ⟨w.heap.size, 1, none⟩ (.string a.s)).setCell ⟨w.heap.size, 2, none⟩ (.string a.t)).setCell ⟨w.heap.size, 3, none⟩ (.slice ao an ac)).setCell ⟨w.heap.size, 4, none⟩ (.slice ayo ayn ayc)).setCell ⟨w.heap.size, 5, none⟩ (.slice azo azn azc)) (some w.heap.size) := box6_by w6 w.heap.size (.int .i64 a.k) (.string a.s) (.string a.t) (.slice ao an ac) (.slice ayo ayn ayc) (.slice azo azn azc)
    have Pep : Hid (Bz6 ((((((w6.setCell ⟨w.heap.size, 0, none⟩ (.int .i64 a.k)).setCell ⟨w.heap.size, 1, none⟩ (.string a.s)).setCell ⟨w.heap.size, 2, none⟩ (.string a.t)).setCell ⟨w.heap.size, 3, none⟩ (.slice ao an ac)).setCell ⟨w.heap.size, 4, none⟩ (.slice ayo ayn ayc)).setCell ⟨w.heap.size, 5, none⟩ (.slice azo azn azc)) w.heap.size (.int .i64 a.k) (.string a.s) (.string a.t) (.slice ao an ac) (.slice ayo ayn ayc) (.slice azo azn azc)) := Pe.out.six (.int .i64 a.k) (.string a.s) (.string a.t) (.slice ao an ac) (.slice ayo ayn ayc) (.slice azo azn azc)
    have Qep := Hid.mk (Qe.out.row G (fun g e => by cases e; omega))
    have HXep := Hid.mk (HXe.out.row G (fun g e => by cases e; omega))
    have HEaep : Hid (YRd ((((((w6.setCell ⟨w.heap.size, 0, none⟩ (.int .i64 a.k)).setCell ⟨w.heap.size, 1, none⟩ (.string a.s)).setCell ⟨w.heap.size, 2, none⟩ (.string a.t)).setCell ⟨w.heap.size, 3, none⟩ (.slice ao an ac)).setCell ⟨w.heap.size, 4, none⟩ (.slice ayo ayn ayc)).setCell ⟨w.heap.size, 5, none⟩ (.slice azo azn azc)) m none ⟨a, .slice ao an ac, .slice ayo ayn ayc, .slice azo azn azc⟩) := yrd_byN HEae.out G (by omega)
    have HEbep : Hid (YRd ((((((w6.setCell ⟨w.heap.size, 0, none⟩ (.int .i64 a.k)).setCell ⟨w.heap.size, 1, none⟩ (.string a.s)).setCell ⟨w.heap.size, 2, none⟩ (.string a.t)).setCell ⟨w.heap.size, 3, none⟩ (.slice ao an ac)).setCell ⟨w.heap.size, 4, none⟩ (.slice ayo ayn ayc)).setCell ⟨w.heap.size, 5, none⟩ (.slice azo azn azc)) m none ⟨b, .slice bo bn bc, .slice byo byn byc, .slice bzo bzn bzc⟩) := yrd_byN HEbe.out G (by omega)
    have HLep := Hid.mk (low_of HLe.out G (by omega))
    refine hK.out _ _ ⟨HXep.out.c0, HXep.out.c1, HXep.out.c2, HXep.out.c3, HXep.out.c4, HXep.out.c5⟩ (fun _ => ?_)
    clear hK K z0 z1 z2 z3 z4 z5 Pe Qe HXe HEae HLe G zf HEbe
    generalize ((((((w6.setCell ⟨w.heap.size, 0, none⟩ (.int .i64 a.k)).setCell ⟨w.heap.size, 1, none⟩ (.string a.s)).setCell ⟨w.heap.size, 2, none⟩ (.string a.t)).setCell ⟨w.heap.size, 3, none⟩ (.slice ao an ac)).setCell ⟨w.heap.size, 4, none⟩ (.slice ayo ayn ayc)).setCell ⟨w.heap.size, 5, none⟩ (.slice azo azn azc)) = wy at *
    refine wpAnyH_ready (rs := [4]) (by kernel_rfl) (by simp) ?_
    refine AllReadyH.cons rfl (fun K hK => ?_) AllReadyH.nil
    have z0 := Qep.out.c0
    have z1 := Qep.out.c1
    have z2 := Qep.out.c2
    have z3 := Qep.out.c3
    have z4 := Qep.out.c4
    have z5 := Qep.out.c5
    have zf := Qep.out.fr
    rw [if_pos (by kernel_rfl)]
    go_wp2_with fail
    have G : wy.grownBy ((((((wy.setCell ⟨w.heap.size + 1, 0, none⟩ (.int .i64 b.k)).setCell ⟨w.heap.size + 1, 1, none⟩ (.string b.s)).setCell ⟨w.heap.size + 1, 2, none⟩ (.string b.t)).setCell ⟨w.heap.size + 1, 3, none⟩ (.slice bo bn bc)).setCell ⟨w.heap.size + 1, 4, none⟩ (.slice byo byn byc)).setCell ⟨w.heap.size + 1, 5, none⟩ (.slice bzo bzn bzc)) (some (w.heap.size + 1)) := box6_by wy (w.heap.size + 1) (.int .i64 b.k) (.string b.s) (.string b.t) (.slice bo bn bc) (.slice byo byn byc) (.slice bzo bzn bzc)
    have Qepq : Hid (Bz6 ((((((wy.setCell ⟨w.heap.size + 1, 0, none⟩ (.int .i64 b.k)).setCell ⟨w.heap.size + 1, 1, none⟩ (.string b.s)).setCell ⟨w.heap.size + 1, 2, none⟩ (.string b.t)).setCell ⟨w.heap.size + 1, 3, none⟩ (.slice bo bn bc)).setCell ⟨w.heap.size + 1, 4, none⟩ (.slice byo byn byc)).setCell ⟨w.heap.size + 1, 5, none⟩ (.slice bzo bzn bzc)) (w.heap.size + 1) (.int .i64 b.k) (.string b.s) (.string b.t) (.slice bo bn bc) (.slice byo byn byc) (.slice bzo bzn bzc)) := Qep.out.six (.int .i64 b.k) (.string b.s) (.string b.t) (.slice bo bn bc) (.slice byo byn byc) (.slice bzo bzn bzc)
    have Pepq := Hid.mk (Pep.out.row G (fun g e => by cases e; omega))
    have HXepq := Hid.mk (HXep.out.row G (fun g e => by cases e; omega))
    have HEaepq : Hid (YRd ((((((wy.setCell ⟨w.heap.size + 1, 0, none⟩ (.int .i64 b.k)).setCell ⟨w.heap.size + 1, 1, none⟩ (.string b.s)).setCell ⟨w.heap.size + 1, 2, none⟩ (.string b.t)).setCell ⟨w.heap.size + 1, 3, none⟩ (.slice bo bn bc)).setCell ⟨w.heap.size + 1, 4, none⟩ (.slice byo byn byc)).setCell ⟨w.heap.size + 1, 5, none⟩ (.slice bzo bzn bzc)) m none ⟨a, .slice ao an ac, .slice ayo ayn ayc, .slice azo azn azc⟩) := yrd_byN HEaep.out G (by omega)
    have HEbepq : Hid (YRd ((((((wy.setCell ⟨w.heap.size + 1, 0, none⟩ (.int .i64 b.k)).setCell ⟨w.heap.size + 1, 1, none⟩ (.string b.s)).setCell ⟨w.heap.size + 1, 2, none⟩ (.string b.t)).setCell ⟨w.heap.size + 1, 3, none⟩ (.slice bo bn bc)).setCell ⟨w.heap.size + 1, 4, none⟩ (.slice byo byn byc)).setCell ⟨w.heap.size + 1, 5, none⟩ (.slice bzo bzn bzc)) m none ⟨b, .slice bo bn bc, .slice byo byn byc, .slice bzo bzn bzc⟩) := yrd_byN HEbep.out G (by omega)
    have HLepq := Hid.mk (low_of HLep.out G (by omega))
    refine hK.out _ _ ⟨HXepq.out.c0, HXepq.out.c1, HXepq.out.c2, HXepq.out.c3, HXepq.out.c4, HXepq.out.c5⟩ (fun _ => ?_)
    clear hK K z0 z1 z2 z3 z4 z5 Pep Qep HXep HEaep HLep G zf HEbep
    refine wpAnyH_done (by kernel_rfl) ?_ _
    go_wp2
    have p0 := Pepq.out.c0
    have q0 := Qepq.out.c0
    have p1 := Pepq.out.c1
    have q1 := Qepq.out.c1
    have p2 := Pepq.out.c2
    have q2 := Qepq.out.c2
    have p3 := Pepq.out.c3
    have q3 := Qepq.out.c3
    have p4 := Pepq.out.c4
    have q4 := Qepq.out.c4
    have p5 := Pepq.out.c5
    have q5 := Qepq.out.c5
    refine bodyPost_ret (v := .tuple #[.agg #[.int .i64 a.k, .string a.s, .string a.t, .slice ao an ac, .slice ayo ayn ayc, .slice azo azn azc], .agg #[.int .i64 b.k, .string b.s, .string b.t, .slice bo bn bc, .slice byo byn byc, .slice bzo bzn bzc]]) ?_ rfl ⟨⟨a, .slice ao an ac, .slice ayo ayn ayc, .slice azo azn azc⟩, ⟨b, .slice bo bn bc, .slice byo byn byc, .slice bzo bzn bzc⟩, rfl, ⟨⟨HDa.out, HDb.out⟩, yrd_low HEaepq.out (by omega), yrd_low HEbepq.out (by omega)⟩, HLepq.out⟩
    generalize ((((((wy.setCell ⟨w.heap.size + 1, 0, none⟩ (.int .i64 b.k)).setCell ⟨w.heap.size + 1, 1, none⟩ (.string b.s)).setCell ⟨w.heap.size + 1, 2, none⟩ (.string b.t)).setCell ⟨w.heap.size + 1, 3, none⟩ (.slice bo bn bc)).setCell ⟨w.heap.size + 1, 4, none⟩ (.slice byo byn byc)).setCell ⟨w.heap.size + 1, 5, none⟩ (.slice bzo bzn bzc)) = W at p0 q0 p1 q1 p2 q2 p3 q3 p4 q4 p5 q5
    simp [results, Try.results6, go_sem, p0, q0, p1, q1, p2, q2, p3, q3, p4, q4, p5, q5]
/-- A program in new blocks, up to one. -/
def PgB (w : World) (m M : Nat) (V fv : Value) : Prop := ∃ p : Pg, Ul w (bd w m M none) p.r V ∧ Fl w (bd w m M none) p.f fv ∧ p.sz ≤ 34359738368
theorem PgB.keep {w w' : World} {m M : Nat} {V fv : Value} (h : PgB w m M V fv) {row : Option Nat} (hg : w.grownBy w' row) (hr : ∀ g, row = some g → g < m ∨ M ≤ g) : PgB w' m M V fv := by
  obtain ⟨p, h1, h2, h3⟩ := h
  exact ⟨p, h1.bnd (bnd_of hg hr), h2.bnd (bnd_of hg hr), h3⟩
theorem PgB.grow {w w' : World} {m M : Nat} {V fv : Value} (h : PgB w m M V fv) (hb : Below w.heap.size w w') : PgB w' m M V fv := by
  obtain ⟨p, h1, h2, h3⟩ := h
  exact ⟨p, h1.bnd (fun b _ _ hlt => hb.block b hlt), h2.bnd (fun b _ _ hlt => hb.block b hlt), h3⟩
theorem PgR.bd {w : World} {m : Nat} {V fv : Value} (h : PgR w m V fv) : PgB w m w.heap.size V fv := by
  obtain ⟨p, h1, h2, h3⟩ := h
  exact ⟨p, h1.imp fun _ hb hlt => ⟨hb, hlt, by simp⟩, h2.imp fun _ hb hlt => ⟨hb, hlt, by simp⟩, h3⟩
theorem two_aa {w : World} {n m M : Nat} {V fv : Value} (h : PgB w m M V fv) (hn : n ≤ m) : ∃ p q, TwoP w n p q V fv V fv := by
  obtain ⟨p, h1, h2, h3⟩ := h
  have hi : ∀ b, bd w m M none b → nf w n b := fun _ hb => ⟨by have := hb.1.1; omega, hb.1.2⟩
  exact ⟨p, p, ⟨by omega, by omega⟩, ⟨h1.imp fun b hb _ => hi b hb, h2.imp fun b hb _ => hi b hb⟩, h1.imp fun b hb _ => hi b hb, h2.imp fun b hb _ => hi b hb⟩
theorem two_ab {w : World} {n m M : Nat} {V fv V2 : Value} {r : List Ru} (h : PgB w m M V fv) (hu : Ul w (bd w m M none) r V2) (hz : gsz Ru.sz r ≤ 1000000000) (hn : n ≤ m) : ∃ p q, TwoP w n p q V fv V2 fv := by
  obtain ⟨p, h1, h2, h3⟩ := h
  have hi : ∀ b, bd w m M none b → nf w n b := fun _ hb => ⟨by have := hb.1.1; omega, hb.1.2⟩
  refine ⟨p, ⟨r, p.f⟩, ⟨by omega, ?_⟩, ⟨h1.imp fun b hb _ => hi b hb, h2.imp fun b hb _ => hi b hb⟩, hu.imp fun b hb _ => hi b hb, h2.imp fun b hb _ => hi b hb⟩
  simp only [Pg.sz] at *
  omega

set_option maxHeartbeats 4000000 in
theorem drawSameProg_any (v : Value) (zs : List Int) (w : World) (h : Bs w v zs) (hlen : zs.length ≤ 1048576) :
    Calls Try.prog 7 #[v] w fun e w' => ∃ x0 x1 y0 y1 : Value, e = .returned (.tuple #[pgV x0 x1, pgV y0 y1]) ∧ (∃ p q, TwoP w' w.heap.size p q x0 x1 y0 y1) ∧ Below w.heap.size w w' := by
  have A1 : Below w.heap.size w ((w.alloc (.cells #[.slice none 0 0, .slice none 0 0] 37)).alloc (.cells #[.slice none 0 0, .slice none 0 0] 37)) := ((Below.refl _ _).alloc (Nat.le_refl _) _).alloc (by simp) _
  have H := Hid.mk (h.grow A1)
  have A2 : Below (w.alloc (.cells #[.slice none 0 0, .slice none 0 0] 37)).heap.size (w.alloc (.cells #[.slice none 0 0, .slice none 0 0] 37)) ((w.alloc (.cells #[.slice none 0 0, .slice none 0 0] 37)).alloc (.cells #[.slice none 0 0, .slice none 0 0] 37)) := (Below.refl _ _).alloc (Nat.le_refl _) _
  have P0 := Hid.mk ((BzP.new w (.slice none 0 0) (.slice none 0 0)).grow A2)
  have Q0 : Hid (BzP ((w.alloc (.cells #[.slice none 0 0, .slice none 0 0] 37)).alloc (.cells #[.slice none 0 0, .slice none 0 0] 37)) (w.heap.size + 1) (.slice none 0 0) (.slice none 0 0)) := by
    have := BzP.new (w.alloc (.cells #[.slice none 0 0, .slice none 0 0] 37)) (.slice none 0 0) (.slice none 0 0)
    simpa [Hid] using this
  have S0 : ((w.alloc (.cells #[.slice none 0 0, .slice none 0 0] 37)).alloc (.cells #[.slice none 0 0, .slice none 0 0] 37)).heap.size = w.heap.size + 2 := by simp
  have HL0 := Hid.mk A1
  clear h A1 A2
  go_enter Try.func7, Try.ntmps7
  go_wp2_with fail
  generalize (w.alloc (.cells #[.slice none 0 0, .slice none 0 0] 37)).alloc (.cells #[.slice none 0 0, .slice none 0 0] 37) = W0 at *
  refine (l1New_any v zs W0 H.out hlen).mono ?_
  rintro e w1 ⟨rfl, hC1, hb1⟩
  have P1 := Hid.mk (P0.out.grow hb1)
  have Q1 := Hid.mk (Q0.out.grow hb1)
  have HL1 := Hid.mk (HL0.out.trans (hb1.mono (by omega)))
  have HC1 := Hid.mk hC1
  rw [S0] at HC1 ⊢
  obtain ⟨cb, hcb⟩ : ∃ c, w.heap.size + 2 = c := ⟨_, rfl⟩
  rw [hcb] at HC1 ⊢
  clear hC1 hb1 P0 Q0 HL0 H S0
  have hc1 := HC1.out.lt
  go_wp2_with fail
  refine (l10Any_any cb v zs w1 HC1.out).mono ?_
  rintro e w2 ⟨V, fv, rfl, he, hC, hg⟩
  obtain ⟨⟨ao, an, ac, rfl⟩, ⟨fo, fn, fc, rfl⟩⟩ := he.shape
  obtain ⟨m, hm⟩ : ∃ m, w1.heap.size + 1 = m := ⟨_, rfl⟩
  rw [hm] at he
  have A3 : Below w2.heap.size w2 (w2.alloc (.cells #[.slice ao an ac, .slice fo fn fc] 37)) := (Below.refl _ _).alloc (Nat.le_refl _) _
  have hs2 := hg.size
  have P2 := Hid.mk ((P1.out.row hg (fun g e => by cases e; omega)).grow A3)
  have Q2 := Hid.mk ((Q1.out.row hg (fun g e => by cases e; omega)).grow A3)
  have HX2 := Hid.mk (BzP.new w2 (.slice ao an ac) (.slice fo fn fc))
  have HA2 := Hid.mk (he.bd.grow A3)
  have HC2 := Hid.mk (hC.grow A3)
  have HL2 := Hid.mk ((low_of HL1.out hg (by omega)).trans (A3.mono (by have := (low_of HL1.out hg (by omega)).size; omega)))
  clear he hC hg P1 Q1 HC1 HL1 A3
  go_wp2_with fail
  obtain ⟨ab, hab⟩ : ∃ c, w2.heap.size = c := ⟨_, rfl⟩
  rw [hab] at HX2 hs2 HA2
  generalize w2.alloc (.cells #[.slice ao an ac, .slice fo fn fc] 37) = w3 at *
  simp only [hab] at *
  refine (l1Once_any cb v zs 2 _ HC2.out).mono ?_
  rintro e w4 ⟨x, rfl, hC, hg⟩
  have P4 := Hid.mk (P2.out.row hg (fun g e => by cases e; omega))
  have Q4 := Hid.mk (Q2.out.row hg (fun g e => by cases e; omega))
  have HX4 := Hid.mk (HX2.out.row hg (fun g e => by cases e; omega))
  have HA4 := Hid.mk (HA2.out.keep hg (fun g e => by cases e; exact .inl (by omega)))
  have HC4 := Hid.mk hC
  have HL4 := Hid.mk (low_of HL2.out hg (by omega))
  have hl4 := HX4.out.lt
  clear hC hg P2 Q2 HX2 HA2 HC2 HL2 hab
  cases x with
  | true =>
    have Pd := Hid.mk (P4.out.grow (drewB _ w4))
    have Qd := Hid.mk (Q4.out.grow (drewB _ w4))
    have HXd := Hid.mk (HX4.out.grow (drewB _ w4))
    have HAd := Hid.mk (HA4.out.grow (drewB _ w4))
    have HLd := Hid.mk (HL4.out.trans (drewB _ w4))
    clear P4 Q4 HX4 HA4 HL4
    go_wp2_with fail
    refine wp_region_held_drew (S := fun w' => w'.cell? ⟨ab, 0, none⟩ = some (.slice ao an ac) ∧ w'.cell? ⟨ab, 1, none⟩ = some (.slice fo fn fc)) (by kernel_rfl) ⟨HXd.out.c0, HXd.out.c1⟩ (fun _ => ?_)
    generalize w4.drew = wd at *
    refine takeHD (i := 0) (v := .agg #[.slice ao an ac, .slice fo fn fc]) (some 13) rfl rfl (by kernel_rfl) (by kernel_rfl) (by kernel_rfl) (fun _ _ _ h => h) (Or.inl ⟨by kernel_rfl, fun w' hw => ?_⟩) ⟨HXd.out.c0, HXd.out.c1⟩ ?_
    · obtain ⟨y0, y1⟩ := hw; go_simp
    simp only [Act.put, List.setIfInBounds_toArray]
    refine takeHD (i := 1) (v := .agg #[.slice ao an ac, .slice fo fn fc]) (some 14) rfl rfl (by kernel_rfl) (by kernel_rfl) (by kernel_rfl) (fun _ _ _ h => h) (Or.inl ⟨by kernel_rfl, fun w' hw => ?_⟩) ⟨HXd.out.c0, HXd.out.c1⟩ ?_
    · obtain ⟨y0, y1⟩ := hw; go_simp
    simp only [Act.put, List.setIfInBounds_toArray]
    refine wpAnyH_ready (rs := [2]) (by kernel_rfl) (by simp) ?_
    refine AllReadyH.cons rfl (fun K hK => ?_) AllReadyH.nil
    have z0 := Pd.out.c0
    have z1 := Pd.out.c1
    have zf := Pd.out.fr
    rw [if_pos (by kernel_rfl)]
    go_wp2_with fail
    have G : wd.grownBy ((wd.setCell ⟨w.heap.size, 0, none⟩ (.slice ao an ac)).setCell ⟨w.heap.size, 1, none⟩ (.slice fo fn fc)) (some w.heap.size) := box2_by wd w.heap.size (.slice ao an ac) (.slice fo fn fc)
    have Pdp : Hid (BzP ((wd.setCell ⟨w.heap.size, 0, none⟩ (.slice ao an ac)).setCell ⟨w.heap.size, 1, none⟩ (.slice fo fn fc)) w.heap.size (.slice ao an ac) (.slice fo fn fc)) := Pd.out.two (.slice ao an ac) (.slice fo fn fc)
    have Qdp := Hid.mk (Qd.out.row G (fun g e => by cases e; omega))
    have HXdp := Hid.mk (HXd.out.row G (fun g e => by cases e; omega))
    have HAdp : Hid (PgB ((wd.setCell ⟨w.heap.size, 0, none⟩ (.slice ao an ac)).setCell ⟨w.heap.size, 1, none⟩ (.slice fo fn fc)) m ab (.slice ao an ac) (.slice fo fn fc)) := HAd.out.keep G (fun g e => by cases e; exact .inl (by omega))
    have HLdp := Hid.mk (low_of HLd.out G (by omega))
    refine hK.out _ _ ⟨HXdp.out.c0, HXdp.out.c1⟩ (fun _ => ?_)
    clear hK K z0 z1 Pd Qd HXd HAd HLd G zf
    generalize ((wd.setCell ⟨w.heap.size, 0, none⟩ (.slice ao an ac)).setCell ⟨w.heap.size, 1, none⟩ (.slice fo fn fc)) = wy at *
    refine wpAnyH_ready (rs := [3]) (by kernel_rfl) (by simp) ?_
    refine AllReadyH.cons rfl (fun K hK => ?_) AllReadyH.nil
    have z0 := Qdp.out.c0
    have z1 := Qdp.out.c1
    have zf := Qdp.out.fr
    rw [if_pos (by kernel_rfl)]
    go_wp2_with fail
    have G : wy.grownBy ((wy.setCell ⟨w.heap.size + 1, 0, none⟩ (.slice ao an ac)).setCell ⟨w.heap.size + 1, 1, none⟩ (.slice fo fn fc)) (some (w.heap.size + 1)) := box2_by wy (w.heap.size + 1) (.slice ao an ac) (.slice fo fn fc)
    have Qdpq : Hid (BzP ((wy.setCell ⟨w.heap.size + 1, 0, none⟩ (.slice ao an ac)).setCell ⟨w.heap.size + 1, 1, none⟩ (.slice fo fn fc)) (w.heap.size + 1) (.slice ao an ac) (.slice fo fn fc)) := Qdp.out.two (.slice ao an ac) (.slice fo fn fc)
    have Pdpq := Hid.mk (Pdp.out.row G (fun g e => by cases e; omega))
    have HXdpq := Hid.mk (HXdp.out.row G (fun g e => by cases e; omega))
    have HAdpq : Hid (PgB ((wy.setCell ⟨w.heap.size + 1, 0, none⟩ (.slice ao an ac)).setCell ⟨w.heap.size + 1, 1, none⟩ (.slice fo fn fc)) m ab (.slice ao an ac) (.slice fo fn fc)) := HAdp.out.keep G (fun g e => by cases e; exact .inl (by omega))
    have HLdpq := Hid.mk (low_of HLdp.out G (by omega))
    refine hK.out _ _ ⟨HXdpq.out.c0, HXdpq.out.c1⟩ (fun _ => ?_)
    clear hK K z0 z1 Pdp Qdp HXdp HAdp HLdp G zf
    refine wpAnyH_done (by kernel_rfl) ?_ _
    go_wp2
    have p0 := Pdpq.out.c0
    have q0 := Qdpq.out.c0
    have p1 := Pdpq.out.c1
    have q1 := Qdpq.out.c1
    refine bodyPost_ret (v := .tuple #[.agg #[.slice ao an ac, .slice fo fn fc], .agg #[.slice ao an ac, .slice fo fn fc]]) ?_ rfl ⟨_, _, _, _, rfl, two_aa HAdpq.out (by omega), HLdpq.out⟩
    generalize ((wy.setCell ⟨w.heap.size + 1, 0, none⟩ (.slice ao an ac)).setCell ⟨w.heap.size + 1, 1, none⟩ (.slice fo fn fc)) = W at p0 q0 p1 q1
    simp [results, Try.results7, go_sem, p0, q0, p1, q1]
  | false =>
    go_wp2_with fail
    refine (l10Draw_any cb v zs _ HC4.out).mono ?_
    rintro e w5 ⟨V2, fv2, rfl, hD2, hC, hg⟩
    obtain ⟨p2, hu2, hf2, hz2⟩ := hD2.pgR
    obtain ⟨bo, bn, bc, rfl⟩ : ∃ o n c, V2 = .slice o n c := by obtain ⟨o, c, h, -⟩ := hu2.len; exact ⟨_, _, _, h⟩
    obtain ⟨ko, kn, kc, rfl⟩ : ∃ o n c, fv2 = .slice o n c := by obtain ⟨o, c, h, -⟩ := hf2.len; exact ⟨_, _, _, h⟩
    have A5 : Below w5.heap.size w5 (w5.alloc (.cells #[.slice bo bn bc, .slice ko kn kc] 37)) := (Below.refl _ _).alloc (Nat.le_refl _) _
    have hs5 := hg.size
    have hu5 : Ul w5 (bd w5 m w5.heap.size none) p2.r (.slice bo bn bc) := hu2.imp fun _ hb hlt => ⟨⟨by have := hb.1; omega, hb.2⟩, hlt, by simp⟩
    have ha5 : PgB w5 m w5.heap.size (.slice ao an ac) (.slice fo fn fc) := by
      obtain ⟨p, h1, h2, h3⟩ := HA4.out.keep hg (fun g e => by cases e; exact .inl (by omega))
      exact ⟨p, h1.imp fun _ hb hlt => ⟨hb.1, hlt, by simp⟩, h2.imp fun _ hb hlt => ⟨hb.1, hlt, by simp⟩, h3⟩
    have P5 := Hid.mk ((P4.out.row hg (fun g e => by cases e; omega)).grow A5)
    have Q5 := Hid.mk ((Q4.out.row hg (fun g e => by cases e; omega)).grow A5)
    have HX5 := Hid.mk ((HX4.out.row hg (fun g e => by cases e; omega)).grow A5)
    have BX5 := Hid.mk (BzP.new w5 (.slice bo bn bc) (.slice ko kn kc))
    have HU5 := Hid.mk (hu5.bnd (fun b _ _ hlt => A5.block b hlt))
    have HA5 := Hid.mk (ha5.grow A5)
    have HL5 := Hid.mk ((low_of HL4.out hg (by omega)).trans (A5.mono (by have := (low_of HL4.out hg (by omega)).size; omega)))
    have HZ2 := Hid.mk hz2
    clear hD2 hu2 hf2 hz2 hC hg hu5 ha5 P4 Q4 HX4 HA4 HC4 HL4 A5
    go_upto_region 6 with fail
    obtain ⟨bb, hbb⟩ : ∃ c, w5.heap.size = c := ⟨_, rfl⟩
    rw [hbb] at BX5 HU5 HA5 hs5
    generalize w5.alloc (.cells #[.slice bo bn bc, .slice ko kn kc] 37) = w6 at *
    simp only [hbb] at *
    clear hbb
    have hab : ab < bb := by omega
    have x1 := HX5.out.c1
    have z1 := BX5.out.c1
    have zf := BX5.out.fr
    have G := gb_set w6 bb 1 (.slice fo fn fc)
    have P6 := Hid.mk (P5.out.row G (fun g e => by cases e; omega))
    have Q6 := Hid.mk (Q5.out.row G (fun g e => by cases e; omega))
    have HX6 := Hid.mk (HX5.out.row G (fun g e => by cases e; omega))
    have BX6 := Hid.mk (BX5.out.put1 (.slice fo fn fc))
    have HU6 := Hid.mk (HU5.out.bnd (bnd_of G (fun g e => by cases e; exact .inr (Nat.le_refl _))))
    have HA6 := Hid.mk (HA5.out.keep G (fun g e => by cases e; exact .inr (Nat.le_refl _)))
    have HL6 := Hid.mk (low_of HL5.out G (by omega))
    clear P5 Q5 HX5 BX5 HU5 HA5 HL5 G
    go_upto_region 7 with fail
    clear x1 z1 zf
    generalize w6.setCell ⟨bb, 1, none⟩ (.slice fo fn fc) = w7 at *
    have BXd := Hid.mk (BX6.out.grow (drewB _ w7))
    have HUd := Hid.mk (HU6.out.bnd (fun b _ _ hlt => (drewB _ w7).block b hlt))
    clear BX6 HU6
    have Pd := Hid.mk (P6.out.grow (drewB _ w7))
    have Qd := Hid.mk (Q6.out.grow (drewB _ w7))
    have HXd := Hid.mk (HX6.out.grow (drewB _ w7))
    have HAd := Hid.mk (HA6.out.grow (drewB _ w7))
    have HLd := Hid.mk (HL6.out.trans (drewB _ w7))
    clear P6 Q6 HX6 HA6 HL6
    refine wp_region_held_drew (S := fun w' => (w'.cell? ⟨ab, 0, none⟩ = some (.slice ao an ac) ∧ w'.cell? ⟨ab, 1, none⟩ = some (.slice fo fn fc)) ∧ w'.cell? ⟨bb, 0, none⟩ = some (.slice bo bn bc) ∧ w'.cell? ⟨bb, 1, none⟩ = some (.slice fo fn fc)) (by kernel_rfl) ⟨⟨HXd.out.c0, HXd.out.c1⟩, BXd.out.c0, BXd.out.c1⟩ (fun _ => ?_)
    generalize w7.drew = wd at *
    refine takeHD (i := 0) (v := .agg #[.slice ao an ac, .slice fo fn fc]) (some 20) rfl rfl (by kernel_rfl) (by kernel_rfl) (by kernel_rfl) (fun _ _ _ h => h) (Or.inl ⟨by kernel_rfl, fun w' hw => ?_⟩) ⟨⟨HXd.out.c0, HXd.out.c1⟩, BXd.out.c0, BXd.out.c1⟩ ?_
    · obtain ⟨⟨y0, y1⟩, y2, y3⟩ := hw; go_simp
    simp only [Act.put, List.setIfInBounds_toArray]
    refine takeHD (i := 1) (v := .agg #[.slice bo bn bc, .slice fo fn fc]) (some 21) rfl rfl (by kernel_rfl) (by kernel_rfl) (by kernel_rfl) (fun _ _ _ h => h) (Or.inl ⟨by kernel_rfl, fun w' hw => ?_⟩) ⟨⟨HXd.out.c0, HXd.out.c1⟩, BXd.out.c0, BXd.out.c1⟩ ?_
    · obtain ⟨⟨y0, y1⟩, y2, y3⟩ := hw; go_simp
    simp only [Act.put, List.setIfInBounds_toArray]
    refine wpAnyH_ready (rs := [2]) (by kernel_rfl) (by simp) ?_
    refine AllReadyH.cons rfl (fun K hK => ?_) AllReadyH.nil
    have z0 := Pd.out.c0
    have z1 := Pd.out.c1
    have zf := Pd.out.fr
    rw [if_pos (by kernel_rfl)]
    go_wp2_with fail
    have G : wd.grownBy ((wd.setCell ⟨w.heap.size, 0, none⟩ (.slice ao an ac)).setCell ⟨w.heap.size, 1, none⟩ (.slice fo fn fc)) (some w.heap.size) := box2_by wd w.heap.size (.slice ao an ac) (.slice fo fn fc)
    have Pdp : Hid (BzP ((wd.setCell ⟨w.heap.size, 0, none⟩ (.slice ao an ac)).setCell ⟨w.heap.size, 1, none⟩ (.slice fo fn fc)) w.heap.size (.slice ao an ac) (.slice fo fn fc)) := Pd.out.two (.slice ao an ac) (.slice fo fn fc)
    have Qdp := Hid.mk (Qd.out.row G (fun g e => by cases e; omega))
    have HXdp := Hid.mk (HXd.out.row G (fun g e => by cases e; omega))
    have HAdp : Hid (PgB ((wd.setCell ⟨w.heap.size, 0, none⟩ (.slice ao an ac)).setCell ⟨w.heap.size, 1, none⟩ (.slice fo fn fc)) m bb (.slice ao an ac) (.slice fo fn fc)) := HAd.out.keep G (fun g e => by cases e; exact .inl (by omega))
    have BXdp := Hid.mk (BXd.out.row G (fun g e => by cases e; omega))
    have HUdp : Hid (Ul ((wd.setCell ⟨w.heap.size, 0, none⟩ (.slice ao an ac)).setCell ⟨w.heap.size, 1, none⟩ (.slice fo fn fc)) (bd ((wd.setCell ⟨w.heap.size, 0, none⟩ (.slice ao an ac)).setCell ⟨w.heap.size, 1, none⟩ (.slice fo fn fc)) m bb none) p2.r (.slice bo bn bc)) := HUd.out.bnd (bnd_of G (fun g e => by cases e; exact .inl (by omega)))
    have HLdp := Hid.mk (low_of HLd.out G (by omega))
    refine hK.out _ _ ⟨⟨HXdp.out.c0, HXdp.out.c1⟩, BXdp.out.c0, BXdp.out.c1⟩ (fun _ => ?_)
    clear hK K z0 z1 Pd Qd HXd HAd HLd G zf BXd HUd
    generalize ((wd.setCell ⟨w.heap.size, 0, none⟩ (.slice ao an ac)).setCell ⟨w.heap.size, 1, none⟩ (.slice fo fn fc)) = wy at *
    refine wpAnyH_ready (rs := [3]) (by kernel_rfl) (by simp) ?_
    refine AllReadyH.cons rfl (fun K hK => ?_) AllReadyH.nil
    have z0 := Qdp.out.c0
    have z1 := Qdp.out.c1
    have zf := Qdp.out.fr
    rw [if_pos (by kernel_rfl)]
    go_wp2_with fail
    have G : wy.grownBy ((wy.setCell ⟨w.heap.size + 1, 0, none⟩ (.slice bo bn bc)).setCell ⟨w.heap.size + 1, 1, none⟩ (.slice fo fn fc)) (some (w.heap.size + 1)) := box2_by wy (w.heap.size + 1) (.slice bo bn bc) (.slice fo fn fc)
    have Qdpq : Hid (BzP ((wy.setCell ⟨w.heap.size + 1, 0, none⟩ (.slice bo bn bc)).setCell ⟨w.heap.size + 1, 1, none⟩ (.slice fo fn fc)) (w.heap.size + 1) (.slice bo bn bc) (.slice fo fn fc)) := Qdp.out.two (.slice bo bn bc) (.slice fo fn fc)
    have Pdpq := Hid.mk (Pdp.out.row G (fun g e => by cases e; omega))
    have HXdpq := Hid.mk (HXdp.out.row G (fun g e => by cases e; omega))
    have HAdpq : Hid (PgB ((wy.setCell ⟨w.heap.size + 1, 0, none⟩ (.slice bo bn bc)).setCell ⟨w.heap.size + 1, 1, none⟩ (.slice fo fn fc)) m bb (.slice ao an ac) (.slice fo fn fc)) := HAdp.out.keep G (fun g e => by cases e; exact .inl (by omega))
    have BXdpq := Hid.mk (BXdp.out.row G (fun g e => by cases e; omega))
    have HUdpq : Hid (Ul ((wy.setCell ⟨w.heap.size + 1, 0, none⟩ (.slice bo bn bc)).setCell ⟨w.heap.size + 1, 1, none⟩ (.slice fo fn fc)) (bd ((wy.setCell ⟨w.heap.size + 1, 0, none⟩ (.slice bo bn bc)).setCell ⟨w.heap.size + 1, 1, none⟩ (.slice fo fn fc)) m bb none) p2.r (.slice bo bn bc)) := HUdp.out.bnd (bnd_of G (fun g e => by cases e; exact .inl (by omega)))
    have HLdpq := Hid.mk (low_of HLdp.out G (by omega))
    refine hK.out _ _ ⟨⟨HXdpq.out.c0, HXdpq.out.c1⟩, BXdpq.out.c0, BXdpq.out.c1⟩ (fun _ => ?_)
    clear hK K z0 z1 Pdp Qdp HXdp HAdp HLdp G zf BXdp HUdp
    refine wpAnyH_done (by kernel_rfl) ?_ _
    go_wp2
    have p0 := Pdpq.out.c0
    have q0 := Qdpq.out.c0
    have p1 := Pdpq.out.c1
    have q1 := Qdpq.out.c1
    refine bodyPost_ret (v := .tuple #[.agg #[.slice ao an ac, .slice fo fn fc], .agg #[.slice bo bn bc, .slice fo fn fc]]) ?_ rfl ⟨_, _, _, _, rfl, two_ab HAdpq.out HUdpq.out HZ2.out (by omega), HLdpq.out⟩
    generalize ((wy.setCell ⟨w.heap.size + 1, 0, none⟩ (.slice bo bn bc)).setCell ⟨w.heap.size + 1, 1, none⟩ (.slice fo fn fc)) = W at p0 q0 p1 q1
    simp [results, Try.results7, go_sem, p0, q0, p1, q1]
end Go.Proofs.Ytijpmnenegdmnaa
