/- The map of places of lists of terms: asked and put to. -/
import Derived.Test.YtijpmnenegdmnaaQPlcM
namespace Go.Proofs.Ytijpmnenegdmnaa
open Go.RowKit Go.MapKept Go.ChangeMaps
set_option maxRecDepth 8000
set_option linter.unusedSimpArgs false

theorem equalX (w : World) {D : Nat → Prop} (hD : DkS w D) (p q : Plc) (hp : D p.a.block) (hq : D q.a.block) (d : Nat) :
    (Op.equalIn (d + 2) 100 (plV p) (plV q)).run Try.prog w = .ok (decide (p = q)) w := by
  have hfs : (Try.prog.fieldsOf 100).toList.map (fun f => (f.name, f.type, f.offset)) = [("first", 98, 0), ("size", 3, 1)] := by kernel_rfl
  have hst : Try.prog.underlying 100 = some (.struct (Try.prog.fieldsOf 100)) := by kernel_rfl
  have hho : Try.prog.stoodInHeld 100 = false := by kernel_rfl
  have hpt : Try.prog.underlying 98 = some (.pointer 26) := by kernel_rfl
  have hit : Try.prog.underlying 3 = some (.int .i64) := by kernel_rfl
  obtain ⟨f0, f1, hf, n0, t0, o0, n1, t1, o1⟩ : ∃ f0 f1 : Field, (Try.prog.fieldsOf 100).toList = [f0, f1] ∧ f0.name = "first" ∧ f0.type = 98 ∧ f0.offset = 0 ∧ f1.name = "size" ∧ f1.type = 3 ∧ f1.offset = 1 := by
    generalize (Try.prog.fieldsOf 100).toList = L at hfs
    obtain ⟨f0, f1, rfl⟩ := len_two (show L.length = 2 by simpa using congrArg List.length hfs)
    simp at hfs
    exact ⟨f0, f1, rfl, hfs.1.1, hfs.1.2.1, hfs.1.2.2, hfs.2.1, hfs.2.2.1, hfs.2.2.2⟩
  have hsz : (Try.prog.info? 26).map (·.size) = some 4 := by kernel_rfl
  obtain ⟨ie, hie, hies⟩ := Option.map_eq_some_iff.1 hsz
  unfold plV
  rw [show d + 2 = (d + 1) + 1 from rfl, run_equalIn_struct w (d + 1) 100 _ _ hst hho, hf]
  by_cases ha : p.a = q.a
  · have hsa := run_sameAddr_same (P := Try.prog) (w := w) q.a
    by_cases hn : p.n = q.n
    · have : p = q := by cases p; cases q; simp_all
      simp [Op.eqFields, n0, t0, o0, n1, t1, o1, part, isAgg, run_underlying hpt, run_underlying hit, Op.equalIn, sizeOf, typeInfo, hie, hies, hsa, ha, hn, this]
    · have : p ≠ q := by rintro rfl; exact hn rfl
      simp [Op.eqFields, n0, t0, o0, n1, t1, o1, part, isAgg, run_underlying hpt, run_underlying hit, Op.equalIn, sizeOf, typeInfo, hie, hies, hsa, ha, hn, this]
  · have hsa := run_sameAddr_far (P := Try.prog) w hD ha hp hq
    have : p ≠ q := by rintro rfl; exact ha rfl
    simp [Op.eqFields, n0, t0, o0, n1, t1, o1, part, isAgg, run_underlying hpt, run_underlying hit, Op.equalIn, sizeOf, typeInfo, hie, hies, hsa, this]

theorem eqPtrX (w : World) {D : Nat → Prop} (hD : DkS w D) (p q : Plc) (hp : D p.a.block) (hq : D q.a.block) (d : Nat) :
    (Op.equalIn (d + 1) 98 (.pointer (some p.a)) (.pointer (some q.a))).run Try.prog w = .ok (decide (p.a = q.a)) w := by
  have hpt : Try.prog.underlying 98 = some (.pointer 26) := by kernel_rfl
  have hsz : (Try.prog.info? 26).map (·.size) = some 4 := by kernel_rfl
  obtain ⟨ie, hie, hies⟩ := Option.map_eq_some_iff.1 hsz
  by_cases ha : p.a = q.a
  · have hsa := run_sameAddr_same (P := Try.prog) (w := w) q.a
    simp [run_underlying hpt, Op.equalIn, sizeOf, typeInfo, hie, hies, hsa, ha]
  · have hsa := run_sameAddr_far (P := Try.prog) w hD ha hp hq
    simp [run_underlying hpt, Op.equalIn, sizeOf, typeInfo, hie, hies, hsa, ha]

theorem askX (w : World) {D : Nat → Prop} (hD : DkS w D) (p : Plc) (hp : D p.a.block) : ∀ (es : List MapEntry) (E : List (Plc × Plc)) (i : Nat), Ent es E → (∀ x ∈ E, D x.1.a.block) →
    (Instr.findAsking 100 (plV p) es i).run Try.prog w = .ok (ixP E p i) w := by
  intro es
  induction es with
  | nil =>
    intro E i h _
    cases E with
    | nil => simp [Instr.findAsking, ixP]
    | cons => exact absurd h (by simp [Ent])
  | cons e es ih =>
    intro E i h hE
    cases E with
    | nil => exact absurd h (by simp [Ent])
    | cons x E =>
      obtain ⟨hk, hv, h⟩ := h
      have he : (Op.equal 100 (plV p) e.key).run Try.prog w = .ok (decide (p = x.1)) w := by rw [hk]; exact equalX w hD p x.1 hp (hE x List.mem_cons_self) 9998
      by_cases hx : x.1 = p
      · have : decide (p = x.1) = true := by simp [hx]
        rw [this] at he
        simp [Instr.findAsking, he, ixP, hx, hv]
      · have : decide (p = x.1) = false := by simpa using fun e => hx e.symm
        rw [this] at he
        simp [Instr.findAsking, he, ixP, hx, ih E (i + 1) h fun y hy => hE y (List.mem_cons_of_mem _ hy)]

theorem findX (w : World) {D : Nat → Prop} (hD : DkS w D) (p : Plc) (hp : D p.a.block) (es : List MapEntry) (E : List (Plc × Plc)) (h : Ent es E) (hE : ∀ x ∈ E, D x.1.a.block) :
    (Instr.findKey 100 (plV p) es).run Try.prog w = .ok (ixP E p 0) w := by
  have hst : Try.prog.underlying 100 = some (.struct (Try.prog.fieldsOf 100)) := by kernel_rfl
  have ha := askX w hD p hp es E 0 h hE
  cases es with
  | nil =>
    cases E with
    | nil => simp [Instr.findKey, run_underlying hst, Instr.findNow, ixP]
    | cons => exact absurd h (by simp [Ent])
  | cons e es =>
    have : Instr.findNow (.struct (Try.prog.fieldsOf 100)) (plV p) (e :: es) 0 = none := by simp [Instr.findNow, Instr.sameNow]
    simp [Instr.findKey, run_underlying hst, this, ha]

theorem checkNX (w : World) (em : Bool) (p : Plc) (d : Nat) : (Instr.checkKey em (d + 2) 100 (plV p)).run Try.prog w = .ok () w := by
  have hfs : (Try.prog.fieldsOf 100).toList.map (fun f => (f.name, f.type, f.offset)) = [("first", 98, 0), ("size", 3, 1)] := by kernel_rfl
  have hst : Try.prog.underlying 100 = some (.struct (Try.prog.fieldsOf 100)) := by kernel_rfl
  have hpt : Try.prog.underlying 98 = some (.pointer 26) := by kernel_rfl
  have hit : Try.prog.underlying 3 = some (.int .i64) := by kernel_rfl
  obtain ⟨f0, f1, hf, n0, t0, o0, n1, t1, o1⟩ : ∃ f0 f1 : Field, (Try.prog.fieldsOf 100).toList = [f0, f1] ∧ f0.name = "first" ∧ f0.type = 98 ∧ f0.offset = 0 ∧ f1.name = "size" ∧ f1.type = 3 ∧ f1.offset = 1 := by
    generalize (Try.prog.fieldsOf 100).toList = L at hfs
    obtain ⟨f0, f1, rfl⟩ := len_two (show L.length = 2 by simpa using congrArg List.length hfs)
    simp at hfs
    exact ⟨f0, f1, rfl, hfs.1.1, hfs.1.2.1, hfs.1.2.2, hfs.2.1, hfs.2.2.1, hfs.2.2.2⟩
  unfold plV
  rw [show d + 2 = (d + 1) + 1 from rfl]
  simp [Instr.checkKey, run_underlying hst, ← Array.forIn_toList, hf, n0, t0, o0, n1, t1, o1, part, isAgg, run_underlying hpt, run_underlying hit]

theorem checkX (w : World) (em : Bool) (p : Plc) : (Instr.checkKey em 10000 100 (plV p)).run Try.prog w = .ok () w := checkNX w em p 9998

theorem zeroX (w : World) : (zeroValue 100).run Try.prog w = .ok plZ w := by kernel_rfl

/-- What is asked of the map. -/
theorem lookX {w : World} {D : Nat → Prop} (hD : DkS w D) {m : Nat} {E : List (Plc × Plc)} (h : MapP w D m E) (p : Plc) (hp : D p.a.block) :
    (Instr.lookup 89 (.map (some m)) (plV p) true).run Try.prog w = .ok (.tuple #[((lk E p).map plV).getD plZ, .bool (lk E p).isSome]) w := by
  obtain ⟨es, clock, hb, hE, hin⟩ := h
  have hmt : Try.prog.underlying 89 = some (.map 100 100) := by kernel_rfl
  have hf := findX w hD p hp es.toList E hE fun x hx => (hin x hx).1
  cases hl : lk E p with
  | none =>
    rw [ixP_none hl] at hf
    simp [Instr.lookup, run_underlying hmt, MapKept.run_getObj_map hb, checkX, hf, zeroX, plZ, Result.andThen]
  | some q =>
    obtain ⟨j, hj, -⟩ := ixP_some (i := 0) hl
    rw [hj] at hf
    simp [Instr.lookup, run_underlying hmt, MapKept.run_getObj_map hb, checkX, hf, Result.andThen]

/-- What is put into it. -/
theorem updX {w : World} {D : Nat → Prop} (hD : DkS w D) {m : Nat} {E : List (Plc × Plc)} (h : MapP w D m E) (p q : Plc) (hp : D p.a.block) (hq : D q.a.block) :
    ∃ w', (Instr.mapUpdate 89 (.map (some m)) (plV p) (plV q)).run Try.prog w = .ok () w' ∧ MapP w' D m (putP E p q) ∧ w.grownBy w' (some m) := by
  obtain ⟨es, clock, hb, hE, hin⟩ := h
  have hmt : Try.prog.underlying 89 = some (.map 100 100) := by kernel_rfl
  have hf := findX w hD p hp es.toList E hE fun x hx => (hin x hx).1
  have hin' : ∀ x ∈ putP E p q, D x.1.a.block ∧ D x.2.a.block := by
    intro x hx
    rcases put_mem hx with rfl | hx
    · exact ⟨hp, hq⟩
    · exact hin x hx
  cases hl : lk E p with
  | none =>
    rw [ixP_none hl] at hf
    refine ⟨setBlock w m (.map (es.push ⟨plV p, plV q, clock⟩) (clock + 1)), ?_, ⟨_, _, heap_setBlock_same hb _, ?_, hin'⟩, ⟨rfl, rfl, rfl, by simp [setBlock], fun i _ hi => heap_setBlock_other hb _ (fun e => hi (by rw [e]))⟩⟩
    · simp [Instr.mapUpdate, run_underlying hmt, MapKept.run_getObj_map hb, checkX, hf, MapKept.run_setObj_map _ hb, Result.andThen, setBlock]
    · simpa using ent_push hE hl clock
  | some r =>
    obtain ⟨j, hj, x, hx, rfl⟩ := ixP_some (i := 0) hl
    rw [hj] at hf
    have hj' : ixP E x.1 0 = some (0 + j, plV r) := hj
    have hkey : ((es[j]?).map (·.key)).getD (plV x.1) = plV x.1 := by
      have : ∀ (es : List MapEntry) (E : List (Plc × Plc)) (j : Nat), Ent es E → E[j]? = some x → (es[j]?).map (·.key) = some (plV x.1) := by
        intro es
        induction es with
        | nil => intro E j h hx; cases E with
          | nil => simp at hx
          | cons => exact absurd h (by simp [Ent])
        | cons e es ih => intro E j h hx; cases E with
          | nil => exact absurd h (by simp [Ent])
          | cons y E => cases j with
            | zero => simp at hx; subst hx; simp [h.1]
            | succ j => simpa using ih E j h.2.2 (by simpa using hx)
      have := this es.toList E j hE hx
      rw [Array.getElem?_toList] at this
      rw [this]; rfl
    have hsb : Instr.sameBits 10000 (plV x.1) (plV x.1) = true := sameBits_plV 9998 x.1
    refine ⟨setBlock w m (.map (es.modify j fun e => { e with key := plV x.1, val := plV q }) clock), ?_, ⟨_, _, heap_setBlock_same hb _, ?_, hin'⟩, ⟨rfl, rfl, rfl, by simp [setBlock], fun i _ hi => heap_setBlock_other hb _ (fun e => hi (by rw [e]))⟩⟩
    · simp [Instr.mapUpdate, run_underlying hmt, MapKept.run_getObj_map hb, checkX, hf, hkey, Instr.keyThatStays, hsb, MapKept.run_setObj_map _ hb, Result.andThen, setBlock]
    · have := ent_modify hE (q := q) hj'
      simpa using this

/-- At the operation: 'v, ok := m[k]', where nothing is there. -/
theorem wpList_noX {w : World} {ops : Array Oper} {rest : List Oper} {o : Oper} {a : Act} {Q : Exit → Act → World → Prop} (hg : o.guard = none) (m x : Operand) (hop : o.op = Op.lookup 89 m x true)
    {D : Nat → Prop} (hD : DkS w D) (mb : Nat) (E : List (Plc × Plc)) (hm : a.eval m = .map (some mb)) (h : MapP w D mb E) (p : Plc) (hx : a.eval x = plV p) (hp : D p.a.block) (hl : lk E p = none)
    (hK : wpList Try.prog ops Q rest (a.put o.dst (.tuple #[.agg #[.pointer none, .int .i64 0], .bool false])) w) : wpList Try.prog ops Q (o :: rest) a w := by
  refine wpList_plain hg fun K' hK' => ?_
  have hr := lookX hD h p hp
  rw [hl] at hr
  unfold Oper.wp
  simp [execOp, hop, hm, hx, hr, Result.andThen]
  exact hK' _ _ hK

/-- .. where q is. -/
theorem wpList_yesX {w : World} {ops : Array Oper} {rest : List Oper} {o : Oper} {a : Act} {Q : Exit → Act → World → Prop} (hg : o.guard = none) (m x : Operand) (hop : o.op = Op.lookup 89 m x true)
    {D : Nat → Prop} (hD : DkS w D) (mb : Nat) (E : List (Plc × Plc)) (hm : a.eval m = .map (some mb)) (h : MapP w D mb E) (p : Plc) (hx : a.eval x = plV p) (hp : D p.a.block) (q : Plc) (hl : lk E p = some q)
    (hK : wpList Try.prog ops Q rest (a.put o.dst (.tuple #[.agg #[.pointer (some q.a), .int .i64 q.n], .bool true])) w) : wpList Try.prog ops Q (o :: rest) a w := by
  refine wpList_plain hg fun K' hK' => ?_
  have hr := lookX hD h p hp
  rw [hl] at hr
  unfold Oper.wp
  simp [execOp, hop, hm, hx, hr, Result.andThen]
  exact hK' _ _ hK

theorem wpList_updX {w : World} {ops : Array Oper} {rest : List Oper} {o : Oper} {a : Act} {Q : Exit → Act → World → Prop} (hg : o.guard = none) (m x v : Operand) (hop : o.op = Op.mapUpdate 89 m x v)
    {D : Nat → Prop} (hD : DkS w D) (mb : Nat) (E : List (Plc × Plc)) (hm : a.eval m = .map (some mb)) (h : MapP w D mb E) (p q : Plc) (hx : a.eval x = plV p) (hv : a.eval v = plV q) (hp : D p.a.block) (hq : D q.a.block)
    (hK : ∀ w', MapP w' D mb (putP E p q) → w.grownBy w' (some mb) → wpList Try.prog ops Q rest (a.put o.dst undef) w') : wpList Try.prog ops Q (o :: rest) a w := by
  refine wpList_plain hg fun K' hK' => ?_
  obtain ⟨w', hrun, r1, r2⟩ := updX hD h p q hp hq
  unfold Oper.wp
  simp [execOp, hop, hm, hx, hv, hrun, Result.andThen]
  exact hK' _ _ (hK w' r1 r2)
end Go.Proofs.Ytijpmnenegdmnaa
