/- The model's row of calls: one more appended,stored over;the block of names with it. .. -/
import Derived.Test.YtkbijjkgfojchaaGreatQRun29
import Derived.Deep.RegionHeld
namespace Go.Proofs.YtkbijjkgfojchaaGreat
open Go.RowKit
set_option maxRecDepth 8000
theorem drew1 (w:World):Below w.heap.size w w.drew:=Below.drewSelf _ _ 1
def zX:Ex:=.node 0 0 ⟨#[]⟩ []
def set4X (w:World) (g o:Nat) (k n:Int) (s:ByteArray) (u:Value):World :=
 (((w.setCell ⟨g,o,none⟩ (.int .i64 k)).setCell ⟨g,o+1,none⟩ (.int .i64 n)).setCell ⟨g,o+2,none⟩ (.string s)).setCell ⟨g,o+3,none⟩ u
theorem gb_set4X (w:World) (g o:Nat) (k n:Int) (s:ByteArray) (u:Value):w.grownBy (set4X w g o k n s u) (some g) :=
 ⟨rfl,rfl,rfl,by simp[set4X,World.setCell],fun b _ hb=>by
  have hn:b≠g:=fun e=>hb (by rw[e]);unfold set4X;rw[Below.heap_setCell _ _ _ _ hn,Below.heap_setCell _ _ _ _ hn,Below.heap_setCell _ _ _ _ hn,Below.heap_setCell _ _ _ _ hn]⟩
theorem row_over {w:World} {n g cap:Nat} {L:List (Ex × Value)} {z q:Ex × Value} (h:w.ownsRow n 54 4 (.slice (some ⟨g,0,none⟩) (L.length+1) cap) (L.length+1) (ccs (L++[z]))) :
  (set4X w g (L.length*4) q.1.k q.1.n q.1.s q.2).ownsRow n 54 4 (.slice (some ⟨g,0,none⟩) (L.length+1) cap) (L.length+1) (ccs (L++[q])):=by
 have e:ccs (L++[q])=((((ccs (L++[z])).set (L.length*4) (.int .i64 q.1.k)).set (L.length*4+1) (.int .i64 q.1.n)).set (L.length*4+2) (.string q.1.s)).set (L.length*4+3) q.2:=by
  have hl:=ccs_length L;rw[ccs_append,ccs_append];simp only[ccs];rw[List.set_append_right _ _ (by omega),List.set_append_right _ _ (by omega),List.set_append_right _ _ (by omega),List.set_append_right _ _ (by omega),hl];simp
 rw[e];exact(World.ownsRow.stored (World.ownsRow.stored (World.ownsRow.stored (World.ownsRow.stored h (L.length*4) (.int .i64 q.1.k)).1 (L.length*4+1) (.int .i64 q.1.n)).1 (L.length*4+2) (.string q.1.s)).1 (L.length*4+3) q.2).1
theorem infoXc:(Tryz.prog.info? 54).map (fun i=>(i.zero,i.size,i.bytes))=some (some (.agg #[.int .i64 0,.int .i64 0,.string ⟨#[]⟩,.slice none 0 0]),4,56):=by kernel_rfl
theorem wp_append_c {w:World} {o:Oper} {a:Act} {K:Act->World->Prop} {Q:Exit->Act->World->Prop} (s x:Operand)
  (ho:o.op=.call { callee:=.builtin .append,args:=#[s,x],argTypes:=#[49,49] })
  (n:Nat) (v:Value) (L:List (Ex × Value)) (hs:a.eval s=v) (hown:w.ownsRow n 54 4 v L.length (ccs L)) (lb:Nat) (hx:a.eval x=.slice (some ⟨lb,0,none⟩) 1 1)
  (hc:w.heap[lb]?=some (.cells #[.int .i64 0,.int .i64 0,.string ⟨#[]⟩,.slice none 0 0] 54 (0,0))) (hbase:n<=w.heap.size) (hlen:L.length<=16777216)
  (h:∀ v' w',w'.ownsRow n 54 4 v' (L.length+1) (ccs (L++[(zX,.slice none 0 0)]))->w.grownBy w' v.ownBlock->(v'.ownBlock=v.ownBlock\/v'.ownBlock=some w.heap.size)->K (a.put o.dst v') w') :
  o.wp Tryz.prog a w K Q:=by
 obtain⟨i0,hi,hz0,hz1,hz2⟩:=info_parts infoXc;have hones:∀ q∈ccs [(zX,.slice none 0 0)],q.oneCell'=true:=by
  intro q hq;simp only[ccs,List.mem_cons,List.not_mem_nil,or_false] at hq;rcases hq with rfl | rfl | rfl | rfl <;> rfl
 have hnews:∀ j q,(ccs [(zX,.slice none 0 0)])[j]?=some q->w.cell? ((⟨lb,0,none⟩:Addr).add j)=some q:=by
  intro j q hq;rw[Addr.add_lit,Nat.zero_add,cell_of_row w lb j _ _ (0,0) hc]
  simpa [ccs,zX,Ex.k,Ex.n,Ex.s] using hq
 obtain⟨v',w',hr,hown',hgr,-,hv⟩:=run_append_own_at (P:=Tryz.prog) w n 49 o.type 54 i0 _ 4 56 Tryz.underlying49 hi hz0 hz1 hz2 rfl (by decide) v L.length (ccs L) hown ⟨lb,0,none⟩ 1 1 (ccs [(zX,.slice none 0 0)]) rfl hnews hones (by unfold maxLen;omega) (by omega) hbase;unfold Oper.wp execOp;simp only[ho,resolve,invoke,builtin,Sem.run_bind,Sem.run_pure,Result.andThen_ok,List.map_toArray,List.map_cons,List.map_nil,hs,hx,hr];refine h v' w' ?_ hgr hv;rw[ccs_append];exact hown'
theorem cown_len {w:World} {base size n cap m:Nat} {o:Option Addr} {e:TypeId} {xs:List Value} (h:w.ownsRow base e size (.slice o n cap) m xs):n=m:=by
 rcases id h.2 with⟨h',h0⟩ | ⟨g',cap',cur,e,-⟩
 ·cases h';exact h0.symm
 ·cases e;rfl
theorem cown_some {w:World} {base size m:Nat} {v:Value} {e:TypeId} {xs:List Value} (h:w.ownsRow base e size v m xs) (hm:0<m):∃ g cap,v=.slice (some ⟨g,0,Option.none⟩) m cap:=by
 rcases id h.2 with⟨h',h0⟩ | ⟨g',cap',cur,e,-⟩
 ·omega
 ·exact⟨_,_,e⟩
theorem crow_slice {w:World} {n:Nat} {c:Value} {cs:List Ex} (h:CRow w n c cs):∃ o cap,c=.slice o cs.length cap:=by
 obtain⟨L,rfl,h2,-⟩:=h;rcases h2.2 with⟨rfl,h0⟩ | ⟨g',cap',cur,e,-⟩
 ·exact⟨none,0,by rw[List.length_map,h0]⟩
 ·exact⟨_,_,by rw[List.length_map];exact e⟩
theorem row_last {w:World} {n g cap:Nat} {L:List (Ex × Value)} (h:w.ownsRow n 54 4 (.slice (some ⟨g,0,none⟩) (L.length+1) cap) (L.length+1) (ccs (L++[(zX,.slice none 0 0)]))) :
  w.cell? ⟨g,L.length*4,none⟩=some (.int .i64 0)/\w.cell? ⟨g,L.length*4+1,none⟩=some (.int .i64 0)/\w.cell? ⟨g,L.length*4+2,none⟩=some (.string ⟨#[]⟩)/\w.cell? ⟨g,L.length*4+3,none⟩=some (.slice none 0 0)/\∀ j,w.frozen? ⟨g,j,none⟩=false:=by
 have hcell:=h.cells (g:=g) rfl;obtain⟨s0,s1,s2,s3⟩:=ccs_at (L++[(zX,.slice none 0 0)]) L.length (by simp);have r0:=hcell _ _ s0;have r1:=hcell _ _ s1;have r2:=hcell _ _ s2;have r3:=hcell _ _ s3;simp only[Addr.add_lit,Nat.zero_add,List.getElem_concat_length] at r0 r1 r2 r3;refine⟨r0,r1,r2,r3,fun j=>?_⟩;rcases h.2 with⟨h1,_⟩ | ⟨g',cap',cur,h1,_,hg,_⟩
 ·simp at h1
 ·simp only[Value.slice.injEq,Option.some.injEq,Addr.mk.injEq,and_true] at h1
  obtain⟨rfl,_⟩:=h1;exact frozen_of_row w g j _ _ hg
theorem Kp.ofRow {w w':World} {g:Nat} {c:Value} (h:w.grownBy w' (some g)) (ub:Nat) (hc:c.ownBlock=some g):Kp w w' ub c c:=⟨h.os,h.tape,h.output,h.size,fun b hb _ hn=>h.block b hb (by rw[<- hc];exact hn),fun _ h=>.inl h⟩
structure Ux (w:World) (ub:Nat) (v t c p c':Value) (ps:List ByteArray) (fn line:Bool) (m:Ms):Prop where
 hp:w.heap[ub]?=some (.cells #[v,t,c,p,.bool fn,.bool line,.bool m.bad] 74 (0,0))
 hv:Tb w (fun b=>ub<b/\some b≠c'.ownBlock) v m.vs
 ht:Tb w (fun b=>ub<b/\some b≠c'.ownBlock) t m.ts
 hps:Tb w (fun b=>b≠ub/\some b≠c'.ownBlock) p ps
theorem Ux.cell {w:World} {ub:Nat} {v t c p c':Value} {ps:List ByteArray} {fn line:Bool} {m:Ms} (h:Ux w ub v t c p c' ps fn line m) (o:Nat):w.cell? ⟨ub,o,none⟩=#[v,t,c,p,.bool fn,.bool line,.bool m.bad][o]?:=cell_of_row w ub o _ _ (0,0) h.hp
theorem Ux.fr {w:World} {ub:Nat} {v t c p c':Value} {ps:List ByteArray} {fn line:Bool} {m:Ms} (h:Ux w ub v t c p c' ps fn line m) (o:Nat):w.frozen? ⟨ub,o,none⟩=false:=frozen_of_row w ub o _ _ h.hp
theorem Uw.ux {w w':World} {ub:Nat} {v t c p c':Value} {ps:List ByteArray} {fn line:Bool} {m:Ms} (h:Uw w ub v t c p ps fn line m) (hg:w.grownBy w' c.ownBlock) (hc:c'.ownBlock=c.ownBlock\/c'.ownBlock=some w.heap.size):Ux w' ub v t c p c' ps fn line m:=by
 have hne:∀ b,b<w.heap.size->some b≠c.ownBlock->some b≠c'.ownBlock:=by
  intro b hb h1;rcases hc with hv | hv
  ·rw[hv];exact h1
  ·rw[hv];intro e;simp at e;omega
 have hub:some ub≠c.ownBlock:=fun e=>h.cne ub e.symm rfl;exact⟨(hg.block ub h.lt hub).trans h.hp,((h.hv.imp (C:=fun b=>(ub<b/\some b≠c.ownBlock)/\b<w.heap.size) fun b hb hl=>⟨hb,hl⟩).kept fun b hb hl=>hg.block b hl hb.1.2).imp fun b hb _=>⟨hb.1.1,hne b hb.2 hb.1.2⟩,
  ((h.ht.imp (C:=fun b=>(ub<b/\some b≠c.ownBlock)/\b<w.heap.size) fun b hb hl=>⟨hb,hl⟩).kept fun b hb hl=>hg.block b hl hb.1.2).imp fun b hb _=>⟨hb.1.1,hne b hb.2 hb.1.2⟩,
  ((h.hps.imp (C:=fun b=>(b≠ub/\some b≠c.ownBlock)/\b<w.heap.size) fun b hb hl=>⟨hb,hl⟩).kept fun b hb hl=>hg.block b hl hb.1.2).imp fun b hb _=>⟨hb.1.1,hne b hb.2 hb.1.2⟩⟩
theorem Ux.row {w w':World} {ub g:Nat} {v t c p c':Value} {ps:List ByteArray} {fn line:Bool} {m:Ms} (h:Ux w ub v t c p c' ps fn line m) (hg:w.grownBy w' (some g)) (hc:c'.ownBlock=some g) (hu:ub≠g):Ux w' ub v t c p c' ps fn line m :=
 ⟨(hg.block ub (Array.getElem?_eq_some_iff.1 h.hp).1 (by simpa using hu)).trans h.hp,h.hv.kept fun b hb hl=>hg.block b hl (by rw[<- hc];exact hb.2),h.ht.kept fun b hb hl=>hg.block b hl (by rw[<- hc];exact hb.2),h.hps.kept fun b hb hl=>hg.block b hl (by rw[<- hc];exact hb.2)⟩
theorem Ux.setC {w:World} {ub:Nat} {v t c p c':Value} {ps:List ByteArray} {fn line:Bool} {m:Ms} (h:Ux w ub v t c p c' ps fn line m):Ux (w.setCell ⟨ub,2,none⟩ c') ub v t c' p c' ps fn line m :=
 ⟨by rw[Go.heap_setCell_same w ub 2 _ _ c' h.hp];rfl,h.hv.setCell (by simp) _,h.ht.setCell (by simp) _,h.hps.setCell (by simp) _⟩
theorem Ux.uw {w:World} {ub:Nat} {v t c p:Value} {ps:List ByteArray} {fn line:Bool} {m:Ms} {cs:List Ex} (h:Ux w ub v t c p c ps fn line m) (hc:CRow w (ub+1) c cs):Uw w ub v t c p ps fn line { m with cs:=cs }:=⟨h.hp,h.hv,h.ht,h.hps,hc⟩
end Go.Proofs.YtkbijjkgfojchaaGreat
namespace Go.Proofs.YtkbijjkgfojchaaGreat
section
variable {P:Program} {ops:Array Oper} {Q:Exit->Act->World->Prop} {md:Region.Mode} {S:World->Prop} {f:Nat}
def wpAnyF (P:Program) (md:Region.Mode) (ops:Array Oper) (Q:Exit->Act->World->Prop) (S:World->Prop) (f:Nat):Nat->Array Bool->Act->World->Prop
 | 0,listed,a,w=>Region.ready md ops listed=[]/\Q .normal a w
 | fuel+1,listed,a,w =>
  (Region.ready md ops listed=[]->Q .normal a w) /\
  ∀ i∈Region.ready md ops listed,wpOp P ops Q i (fun a' w'=>(i≠f->S w')/\wpAnyF P md ops Q S f fuel (listed.setIfInBounds i true) a' w') a w
theorem wpAny_of_F:∀ (fuel:Nat) (listed:Array Bool) (a:Act) (w:World),wpAnyF P md ops Q S f fuel listed a w->wpAny P md ops Q fuel listed a w
 | 0,_,_,_,h=>h
 | fuel+1,_,_,_,h=>⟨h.1,fun i hi=>wpOp_mono (fun a' w' h'=>wpAny_of_F fuel _ a' w' h'.2) (h.2 i hi)⟩
def waitsFor (md:Region.Mode) (ops:Array Oper) (f i:Nat):Bool:=match ops[f]? with | some o=>o.after.any (fun e=>Region.binds md e&&e.on==i) | none=>true
theorem wpAnyF_first {i:Nat} {oi:Oper} {v:Value} (hi:ops[i]?=some oi) (hsel:∀ (j:Nat) (o:Oper) cs b,ops[j]?=some o->o.op≠.select cs b)
  (hQ:∀ c a w,Q (.panic c) (a.put oi.dst v) w->Q (.panic c) a w) (hw:waitsFor md ops f i=true) :
  ∀ (fuel:Nat) (listed:Array Bool) (a:Act) (w:World),
   (∀ j oj,ops[j]?=some oj->j≠i->listed.getD j true=false->(∀ e∈oj.after,Region.binds md e=true->e.on≠i)->oi.apart ops oj=true) ->
   i∈Region.ready md ops listed->(i≠f)->YieldsIf P ops S oi v a->S w ->
   wpAnyF P md ops Q S f fuel (listed.setIfInBounds i true) (a.put oi.dst v) w->wpAnyF P md ops Q S f (fuel+1) listed a w:=by
 intro fuel;induction fuel with
 | zero =>
  intro listed a w _ hr hif hy hS H;refine⟨fun h=>(by rw[h] at hr;cases hr),fun j hj=>?_⟩;by_cases hji:j=i
  ·subst hji;exact hy.wpOp hi hS ⟨fun _=>hS,H⟩
  ·have:=ready_mono hj hji
   rw[H.1] at this;cases this
 | succ fuel ih =>
  intro listed a w hfree hr hif hy hS H;refine⟨fun h=>(by rw[h] at hr;cases hr),fun j hj=>?_⟩;by_cases hji:j=i
  ·subst hji;exact hy.wpOp hi hS ⟨fun _=>hS,H⟩
  ·have h1:=H.2 j (ready_mono hj hji)
   obtain⟨hjun,oj,hoj,hall⟩:=mem_ready.1 hj;have hnot:∀ e∈oj.after,Region.binds md e=true->e.on≠i:=fun e he hb heq=>by
    have h1:=hall e he hb;have h0:=(mem_ready.1 hr).1;rw[heq] at h1;rcases Nat.lt_or_ge i listed.size with h' | h'
    ·simp[h'] at h0 h1;rw[h0] at h1;cases h1
    ·simp[Array.getElem?_eq_none h'] at h1
   have hjf:j≠f:=by
    rintro rfl;unfold waitsFor at hw;rw[hoj] at hw;obtain⟨k,hk,hb⟩:=Array.any_eq_true.1 hw;simp only[Bool.and_eq_true,beq_iff_eq] at hb;exact hnot _ (Array.getElem_mem hk) hb.1 hb.2
   have h2:=wpOp_putIf hoj (hfree j oj hoj hji hjun hnot) (fun cs b=>hsel i oi cs b hi) (fun cs b=>hsel j oj cs b hoj) hQ hy h1;have hfree':∀ k ok,ops[k]?=some ok->k≠i->(listed.setIfInBounds j true).getD k true=false ->
     (∀ e∈ok.after,Region.binds md e=true->e.on≠i)->oi.apart ops ok=true:=fun k ok hk hki hun hno=>by
    refine hfree k ok hk hki ?_ hno;by_cases hjk:j=k
    ·subst hjk;exact hjun
    ·rw[getD_set_ne true hjk] at hun;exact hun
   refine wpOp_mono (fun a' w' h3=>⟨fun _=>h3.2.1 hjf,ih (listed.setIfInBounds j true) a' w' hfree' (ready_mono hr (Ne.symm hji)) hif h3.1 (h3.2.1 hjf) ?_⟩) h2;rw[Array.setIfInBounds_comm _ _ hji];exact h3.2.2
theorem takeF {i:Nat} {oi:Oper} {v:Value} {fuel:Nat} {listed:Array Bool} {a:Act} {w:World} (d:Option Tmp) (hi:ops[i]?=some oi) (hd:oi.dst=d)
  (hs:Region.noSelect ops=true) (hf:Region.free md ops listed i=true) (hr:(Region.ready md ops listed).contains i=true) (hw:waitsFor md ops f i=true) (hif:(i != f)=true)
  (hQ:∀ c a w,Q (.panic c) (a.put oi.dst v) w->Q (.panic c) a w) (hy:YieldsIf P ops S oi v a) (hS:S w)
  (h:wpAnyF P md ops Q S f fuel (listed.setIfInBounds i true) (a.put d v) w):wpAnyF P md ops Q S f (fuel+1) listed a w:=by
 subst hd;exact wpAnyF_first hi (Region.noSelect_spec hs) hQ hw fuel listed a w (Region.free_spec hi hf) (by simpa using hr) (by simpa using hif) hy hS h
def AllReadyF (P:Program) (md:Region.Mode) (ops:Array Oper) (Q:Exit->Act->World->Prop) (S:World->Prop) (f:Nat) (fuel:Nat) (listed:Array Bool) (a:Act) (w:World) (rs:List Nat):Prop :=
 ∀ i∈rs,wpOp P ops Q i (fun a' w'=>(i≠f->S w')/\wpAnyF P md ops Q S f fuel (listed.setIfInBounds i true) a' w') a w
theorem AllReadyF.nil {fuel:Nat} {listed:Array Bool} {a:Act} {w:World}:AllReadyF P md ops Q S f fuel listed a w []:=fun _ h=>by cases h
theorem AllReadyF.cons {fuel:Nat} {listed:Array Bool} {a:Act} {w:World} {i:Nat} {o:Oper} {rs:List Nat} (ho:ops[i]?=some o)
  (h:∀ K':Act->World->Prop,Shut (∀ a w,(i≠f->S w)->((i≠f->S w)->wpAnyF P md ops Q S f fuel (listed.setIfInBounds i true) a w)->K' a w)->if Region.wanted o (yielded ops a.tmps)=true then Oper.wp P o a w K' Q else K' (a.put o.dst undef) w)
  (hs:AllReadyF P md ops Q S f fuel listed a w rs):AllReadyF P md ops Q S f fuel listed a w (i :: rs):=fun j hj=>by
 rcases List.mem_cons.1 hj with rfl | hj
 ·exact wpOp_step ho (fun K' hK=>h K' (fun a w hS hW=>hK a w ⟨hS,hW hS⟩))
 ·exact hs j hj
theorem wpAnyF_ready {rs:List Nat} {fuel:Nat} {listed:Array Bool} {a:Act} {w:World} (hr:Region.ready md ops listed=rs) (hne:rs≠[])
  (h:AllReadyF P md ops Q S f fuel listed a w rs):wpAnyF P md ops Q S f (fuel+1) listed a w :=
 ⟨fun h0=>absurd (hr▸h0) hne,hr▸h⟩
theorem wpAnyF_done {listed:Array Bool} {a:Act} {w:World} (hr:Region.ready md ops listed=[]) (h:Q .normal a w) :
  ∀ fuel,wpAnyF P md ops Q S f fuel listed a w
 | 0=>⟨hr,h⟩
 | _+1=>⟨fun _=>h,by rw[hr];simp⟩
theorem wp_region_F {id:Nat} {a:Act} {w:World} (hm:P.follows .mixedOrders=true)
  (h:wpAnyF P .any ops Q S f ops.size (Array.replicate ops.size false) a w.drew):(Code.region id ops true).wp P Q a w :=
 wp_region_any hm (wpAny_of_F _ _ _ _ h)
end
section
variable {P:Program} {ops:Array Oper} {Q:Exit->Act->World->Prop} {md:Region.Mode} {S:World->Prop} {F:List Nat}
def noneB (F:List Nat) (listed:Array Bool):Bool:=F.all fun f=>!listed.getD f true
theorem noneB_iff {listed:Array Bool}:noneB F listed=true↔∀ f∈F,listed.getD f true=false:=by simp[noneB]
theorem noneB_set {listed:Array Bool} {i:Nat} (hi:i ∉ F):noneB F (listed.setIfInBounds i true)=noneB F listed:=by
 have e:∀ f∈F,(listed.setIfInBounds i true).getD f true=listed.getD f true:=fun f hf=>getD_set_ne true (by rintro rfl;exact hi hf);cases h:noneB F listed with
 | true=>rw[noneB_iff] at h |-;exact fun f hf=>(e f hf).trans (h f hf)
 | false =>
  cases h':noneB F (listed.setIfInBounds i true) with
  | false=>rfl
  | true =>
   rw[noneB_iff] at h';rw[noneB_iff.2 fun f hf=>(e f hf).symm.trans (h' f hf)] at h;cases h
def wpAnyG (P:Program) (md:Region.Mode) (ops:Array Oper) (Q:Exit->Act->World->Prop) (S:World->Prop) (F:List Nat):Nat->Array Bool->Act->World->Prop
 | 0,listed,a,w=>Region.ready md ops listed=[]/\Q .normal a w
 | fuel+1,listed,a,w =>
  (Region.ready md ops listed=[]->Q .normal a w) /\
  ∀ i∈Region.ready md ops listed,wpOp P ops Q i (fun a' w'=>(noneB F (listed.setIfInBounds i true)=true->S w')/\wpAnyG P md ops Q S F fuel (listed.setIfInBounds i true) a' w') a w
theorem wpAny_of_G:∀ (fuel:Nat) (listed:Array Bool) (a:Act) (w:World),wpAnyG P md ops Q S F fuel listed a w->wpAny P md ops Q fuel listed a w
 | 0,_,_,_,h=>h
 | fuel+1,_,_,_,h=>⟨h.1,fun i hi=>wpOp_mono (fun a' w' h'=>wpAny_of_G fuel _ a' w' h'.2) (h.2 i hi)⟩
theorem wpAnyG_first {i:Nat} {oi:Oper} {v:Value} (hi:ops[i]?=some oi) (hsel:∀ (j:Nat) (o:Oper) cs b,ops[j]?=some o->o.op≠.select cs b)
  (hQ:∀ c a w,Q (.panic c) (a.put oi.dst v) w->Q (.panic c) a w) (hw:∀ f∈F,waitsFor md ops f i=true) (hiF:i ∉ F) :
  ∀ (fuel:Nat) (listed:Array Bool) (a:Act) (w:World),
   (∀ j oj,ops[j]?=some oj->j≠i->listed.getD j true=false->(∀ e∈oj.after,Region.binds md e=true->e.on≠i)->oi.apart ops oj=true) ->
   i∈Region.ready md ops listed->noneB F listed=true->YieldsIf P ops S oi v a->S w ->
   wpAnyG P md ops Q S F fuel (listed.setIfInBounds i true) (a.put oi.dst v) w->wpAnyG P md ops Q S F (fuel+1) listed a w:=by
 intro fuel;induction fuel with
 | zero =>
  intro listed a w _ hr hn hy hS H;refine⟨fun h=>(by rw[h] at hr;cases hr),fun j hj=>?_⟩;by_cases hji:j=i
  ·subst hji;exact hy.wpOp hi hS ⟨fun _=>hS,H⟩
  ·have:=ready_mono hj hji
   rw[H.1] at this;cases this
 | succ fuel ih =>
  intro listed a w hfree hr hn hy hS H;refine⟨fun h=>(by rw[h] at hr;cases hr),fun j hj=>?_⟩;by_cases hji:j=i
  ·subst hji;exact hy.wpOp hi hS ⟨fun _=>hS,H⟩
  ·have h1:=H.2 j (ready_mono hj hji)
   obtain⟨hjun,oj,hoj,hall⟩:=mem_ready.1 hj;have hnot:∀ e∈oj.after,Region.binds md e=true->e.on≠i:=fun e he hb heq=>by
    have h1:=hall e he hb;have h0:=(mem_ready.1 hr).1;rw[heq] at h1;rcases Nat.lt_or_ge i listed.size with h' | h'
    ·simp[h'] at h0 h1;rw[h0] at h1;cases h1
    ·simp[Array.getElem?_eq_none h'] at h1
   have hjF:j ∉ F:=by
    intro hjf;have hw:=hw j hjf;unfold waitsFor at hw;rw[hoj] at hw;obtain⟨k,hk,hb⟩:=Array.any_eq_true.1 hw;simp only[Bool.and_eq_true,beq_iff_eq] at hb;exact hnot _ (Array.getElem_mem hk) hb.1 hb.2
   have hn1:noneB F (listed.setIfInBounds j true)=true:=(by rw[noneB_set hjF];exact hn);have hn2:noneB F ((listed.setIfInBounds i true).setIfInBounds j true)=true:=(by rw[noneB_set hjF,noneB_set hiF];exact hn);have h2:=wpOp_putIf hoj (hfree j oj hoj hji hjun hnot) (fun cs b=>hsel i oi cs b hi) (fun cs b=>hsel j oj cs b hoj) hQ hy h1;have hfree':∀ k ok,ops[k]?=some ok->k≠i->(listed.setIfInBounds j true).getD k true=false ->
     (∀ e∈ok.after,Region.binds md e=true->e.on≠i)->oi.apart ops ok=true:=fun k ok hk hki hun hno=>by
    refine hfree k ok hk hki ?_ hno;by_cases hjk:j=k
    ·subst hjk;exact hjun
    ·rw[getD_set_ne true hjk] at hun;exact hun
   refine wpOp_mono (fun a' w' h3=>⟨fun _=>h3.2.1 hn2,ih (listed.setIfInBounds j true) a' w' hfree' (ready_mono hr (Ne.symm hji)) hn1 h3.1 (h3.2.1 hn2) ?_⟩) h2;rw[Array.setIfInBounds_comm _ _ hji];exact h3.2.2
theorem wpAnyG_pure {i:Nat} {oi:Oper} {v:Value} (hi:ops[i]?=some oi) (hsel:∀ (j:Nat) (o:Oper) cs b,ops[j]?=some o->o.op≠.select cs b)
  (hQ:∀ c a w,Q (.panic c) (a.put oi.dst v) w->Q (.panic c) a w) (hiF:i ∉ F) :
  ∀ (fuel:Nat) (listed:Array Bool) (a:Act) (w:World),
   (∀ j oj,ops[j]?=some oj->j≠i->listed.getD j true=false->(∀ e∈oj.after,Region.binds md e=true->e.on≠i)->oi.apart ops oj=true) ->
   i∈Region.ready md ops listed->YieldsIf P ops (fun _=>True) oi v a->(noneB F listed=true->S w) ->
   wpAnyG P md ops Q S F fuel (listed.setIfInBounds i true) (a.put oi.dst v) w->wpAnyG P md ops Q S F (fuel+1) listed a w:=by
 intro fuel;induction fuel with
 | zero =>
  intro listed a w _ hr hy hS H;refine⟨fun h=>(by rw[h] at hr;cases hr),fun j hj=>?_⟩;by_cases hji:j=i
  ·subst hji;exact hy.wpOp hi trivial ⟨fun h=>hS (by rw[noneB_set hiF] at h;exact h),H⟩
  ·have:=ready_mono hj hji
   rw[H.1] at this;cases this
 | succ fuel ih =>
  intro listed a w hfree hr hy hS H;refine⟨fun h=>(by rw[h] at hr;cases hr),fun j hj=>?_⟩;by_cases hji:j=i
  ·subst hji;exact hy.wpOp hi trivial ⟨fun h=>hS (by rw[noneB_set hiF] at h;exact h),H⟩
  ·have h1:=H.2 j (ready_mono hj hji)
   obtain⟨hjun,oj,hoj,hall⟩:=mem_ready.1 hj;have hnot:∀ e∈oj.after,Region.binds md e=true->e.on≠i:=fun e he hb heq=>by
    have h1:=hall e he hb;have h0:=(mem_ready.1 hr).1;rw[heq] at h1;rcases Nat.lt_or_ge i listed.size with h' | h'
    ·simp[h'] at h0 h1;rw[h0] at h1;cases h1
    ·simp[Array.getElem?_eq_none h'] at h1
   have e2:noneB F ((listed.setIfInBounds i true).setIfInBounds j true)=noneB F (listed.setIfInBounds j true):=(by rw[Array.setIfInBounds_comm _ _ (Ne.symm hji),noneB_set hiF]);have h2:=wpOp_putIf hoj (hfree j oj hoj hji hjun hnot) (fun cs b=>hsel i oi cs b hi) (fun cs b=>hsel j oj cs b hoj) hQ hy h1;have hfree':∀ k ok,ops[k]?=some ok->k≠i->(listed.setIfInBounds j true).getD k true=false ->
     (∀ e∈ok.after,Region.binds md e=true->e.on≠i)->oi.apart ops ok=true:=fun k ok hk hki hun hno=>by
    refine hfree k ok hk hki ?_ hno;by_cases hjk:j=k
    ·subst hjk;exact hjun
    ·rw[getD_set_ne true hjk] at hun;exact hun
   refine wpOp_mono (fun a' w' h3=>⟨fun h=>h3.2.1 (e2.trans h),ih (listed.setIfInBounds j true) a' w' hfree' (ready_mono hr (Ne.symm hji)) h3.1 (fun h=>h3.2.1 (e2.trans h)) ?_⟩) h2;rw[Array.setIfInBounds_comm _ _ hji];exact h3.2.2
theorem takeG {i:Nat} {oi:Oper} {v:Value} {fuel:Nat} {listed:Array Bool} {a:Act} {w:World} (d:Option Tmp) (hi:ops[i]?=some oi) (hd:oi.dst=d)
  (hs:Region.noSelect ops=true) (hf:Region.free md ops listed i=true) (hr:(Region.ready md ops listed).contains i=true) (hw:(F.all fun f=>waitsFor md ops f i)=true) (hif:F.contains i=false) (hn:noneB F listed=true)
  (hQ:∀ c a w,Q (.panic c) (a.put oi.dst v) w->Q (.panic c) a w) (hy:YieldsIf P ops S oi v a) (hS:S w)
  (h:wpAnyG P md ops Q S F fuel (listed.setIfInBounds i true) (a.put d v) w):wpAnyG P md ops Q S F (fuel+1) listed a w:=by
 subst hd;exact wpAnyG_first hi (Region.noSelect_spec hs) hQ (by simpa using hw) (by simpa using hif) fuel listed a w (Region.free_spec hi hf) (by simpa using hr) hn hy hS h
theorem takeP {i:Nat} {oi:Oper} {v:Value} {fuel:Nat} {listed:Array Bool} {a:Act} {w:World} (d:Option Tmp) (hi:ops[i]?=some oi) (hd:oi.dst=d)
  (hs:Region.noSelect ops=true) (hf:Region.free md ops listed i=true) (hr:(Region.ready md ops listed).contains i=true) (hif:F.contains i=false)
  (hQ:∀ c a w,Q (.panic c) (a.put oi.dst v) w->Q (.panic c) a w) (hy:YieldsIf P ops (fun _=>True) oi v a) (hS:S w)
  (h:wpAnyG P md ops Q S F fuel (listed.setIfInBounds i true) (a.put d v) w):wpAnyG P md ops Q S F (fuel+1) listed a w:=by
 subst hd;exact wpAnyG_pure hi (Region.noSelect_spec hs) hQ (by simpa using hif) fuel listed a w (Region.free_spec hi hf) (by simpa using hr) hy (fun _=>hS) h
def AllReadyG (P:Program) (md:Region.Mode) (ops:Array Oper) (Q:Exit->Act->World->Prop) (S:World->Prop) (F:List Nat) (fuel:Nat) (listed:Array Bool) (a:Act) (w:World) (rs:List Nat):Prop :=
 ∀ i∈rs,wpOp P ops Q i (fun a' w'=>(noneB F (listed.setIfInBounds i true)=true->S w')/\wpAnyG P md ops Q S F fuel (listed.setIfInBounds i true) a' w') a w
theorem AllReadyG.nil {fuel:Nat} {listed:Array Bool} {a:Act} {w:World}:AllReadyG P md ops Q S F fuel listed a w []:=fun _ h=>by cases h
theorem AllReadyG.cons {fuel:Nat} {listed:Array Bool} {a:Act} {w:World} {i:Nat} {o:Oper} {rs:List Nat} (ho:ops[i]?=some o)
  (h:∀ K':Act->World->Prop,Shut (∀ a w,(noneB F (listed.setIfInBounds i true)=true->S w)->((noneB F (listed.setIfInBounds i true)=true->S w)->wpAnyG P md ops Q S F fuel (listed.setIfInBounds i true) a w)->K' a w)->if Region.wanted o (yielded ops a.tmps)=true then Oper.wp P o a w K' Q else K' (a.put o.dst undef) w)
  (hs:AllReadyG P md ops Q S F fuel listed a w rs):AllReadyG P md ops Q S F fuel listed a w (i :: rs):=fun j hj=>by
 rcases List.mem_cons.1 hj with rfl | hj
 ·exact wpOp_step ho (fun K' hK=>h K' (fun a w hS hW=>hK a w ⟨hS,hW hS⟩))
 ·exact hs j hj
theorem wpAnyG_ready {rs:List Nat} {fuel:Nat} {listed:Array Bool} {a:Act} {w:World} (hr:Region.ready md ops listed=rs) (hne:rs≠[])
  (h:AllReadyG P md ops Q S F fuel listed a w rs):wpAnyG P md ops Q S F (fuel+1) listed a w :=
 ⟨fun h0=>absurd (hr▸h0) hne,hr▸h⟩
theorem wpAnyG_done {listed:Array Bool} {a:Act} {w:World} (hr:Region.ready md ops listed=[]) (h:Q .normal a w) :
  ∀ fuel,wpAnyG P md ops Q S F fuel listed a w
 | 0=>⟨hr,h⟩
 | _+1=>⟨fun _=>h,by rw[hr];simp⟩
theorem wp_region_G {id:Nat} {a:Act} {w:World} (hm:P.follows .mixedOrders=true)
  (h:wpAnyG P .any ops Q S F ops.size (Array.replicate ops.size false) a w.drew):(Code.region id ops true).wp P Q a w :=
 wp_region_any hm (wpAny_of_G _ _ _ _ h)
end
end Go.Proofs.YtkbijjkgfojchaaGreat
