/- Places as the model has them: what a map of places holds;nothing on the element's type. .. -/
import Derived.Test.YtkbijjkgfojchaaGreatQRun44
import Derived.Maps.OwnOps
import Derived.LaidEql
import Derived.Laws.StructEq
import Derived.Carry
import Derived.ChangeMaps5
namespace Go.Proofs.YtkbijjkgfojchaaGreat
set_option maxHeartbeats 2000000
open Go.RowKit Go.MapKept Go.ChangeMaps
set_option maxRecDepth 8000
def plV (p:Plc):Value:=.agg #[.pointer (some p.a),.int .i64 p.n]
theorem plc_ext {p q:Plc} (ha:p.a=q.a) (hn:p.n=q.n):p=q:=by cases p;cases q;simp at ha hn;rw[ha,hn]
def plZ:Value:=.agg #[.pointer none,.int .i64 0]
def DkS (w:World) (D:Nat->Prop):Prop:=∀ b,D b->(∃ c e f,w.heap[b]?=some (.cells c e f))/\∀ o,w.frozen? ⟨b,o,none⟩=false
theorem DkS.lt {w:World} {D:Nat->Prop} (h:DkS w D) {b:Nat} (hb:D b):b<w.heap.size:=by
 obtain⟨⟨c,e,f,hc⟩,-⟩:=h b hb;exact(Array.getElem?_eq_some_iff.1 hc).1
theorem DkS.kept {w w':World} {D:Nat->Prop} (h:DkS w D) (hk:∀ b,D b->w'.heap[b]?=w.heap[b]?):DkS w' D:=by
 intro b hb;obtain⟨⟨c,e,f,hc⟩,hf⟩:=h b hb;have hq:=hk b hb;exact⟨⟨c,e,f,hq.trans hc⟩,fun o=>by rw[World.frozen?_of_block (w:=w) (a:=⟨b,o,none⟩) hq];exact hf o⟩
theorem run_sameAddr_far {P:Program} (w:World) {a b:Addr} {D:Nat->Prop} (hD:DkS w D) (hne:a≠b) (ha:D a.block) (hb:D b.block):(sameAddr a b).run P w=.ok false w:=by
 obtain⟨⟨ca,ea,fa,h1⟩,f1⟩:=hD _ ha;obtain⟨⟨cb,eb,fb,h2⟩,f2⟩:=hD _ hb;have g1:∀ (o:Nat) (s:Option Nat),w.frozen? ⟨a.block,o,s⟩=false:=fun o _=>f1 o;have g2:∀ (o:Nat) (s:Option Nat),w.frozen? ⟨b.block,o,s⟩=false:=fun o _=>f2 o;have g1':w.frozen? a=false:=g1 a.off a.spot;have g2':w.frozen? b=false:=g2 b.off b.spot;by_cases hbl:a.block=b.block
 ·simp[sameAddr,hbl,hne]
 ·simp[sameAddr,hbl,g1',g2',h1,h2,noView,viewAt,World.shape?,mayBeOne,stringish,g1,g2]
theorem len_two {α:Type} {L:List α} (h:L.length=2):∃ a b,L=[a,b] :=
 match L,h with
 | [a,b],_=>⟨a,b,rfl⟩
theorem sameBits_plV (d:Nat) (p:Plc):Instr.sameBits (d+2) (plV p) (plV p)=true:=by
 unfold plV;simp[Instr.sameBits]
def Ent:List MapEntry->List (Plc × Plc)->Prop
 | [],[]=>True
 | e :: es,x :: E=>e.key=plV x.1/\e.val=plV x.2/\Ent es E
 | _,_=>False
def ixP:List (Plc × Plc)->Plc->Nat->Option (Nat × Value)
 | [],_,_=>none
 | x :: E,p,i=>if x.1=p then some (i,plV x.2) else ixP E p (i+1)
theorem ixP_none {E:List (Plc × Plc)} {p:Plc} {i:Nat} (h:lk E p=none):ixP E p i=none:=by
 induction E generalizing i with
 | nil=>rfl
 | cons x E ih =>
  unfold lk at h;unfold ixP;split at h
  ·cases h
  ·rename_i hx
   rw[if_neg hx];exact ih h
theorem ixP_some {E:List (Plc × Plc)} {p q:Plc} {i:Nat} (h:lk E p=some q):∃ j,ixP E p i=some (i+j,plV q)/\∃ x,E[j]?=some x/\x.1=p:=by
 induction E generalizing i with
 | nil=>simp[lk] at h
 | cons x E ih =>
  unfold lk at h;unfold ixP;split at h
  ·rename_i hx
   obtain rfl:x.2=q:=by simpa using h
   exact⟨0,by rw[if_pos hx];rfl,x,by simp,hx⟩
  ·rename_i hx
   obtain⟨j,h1,y,h2,h3⟩:=ih (i:=i+1) h;exact⟨j+1,by rw[if_neg hx,h1,Nat.add_assoc,Nat.add_comm 1 j],y,by simpa using h2,h3⟩
def MapP (w:World) (D:Nat->Prop) (m:Nat) (E:List (Plc × Plc)):Prop :=
 ∃ es clock,w.heap[m]?=some (.map es clock)/\Ent es.toList E/\∀ x∈E,D x.1.a.block/\D x.2.a.block
theorem MapP.lt {w:World} {D:Nat->Prop} {m:Nat} {E:List (Plc × Plc)} (h:MapP w D m E):m<w.heap.size:=by
 obtain⟨es,clock,hb,-⟩:=h;exact(Array.getElem?_eq_some_iff.1 hb).1
theorem MapP.kept {w w':World} {D:Nat->Prop} {m:Nat} {E:List (Plc × Plc)} (h:MapP w D m E) (hk:w'.heap[m]?=w.heap[m]?):MapP w' D m E:=by
 obtain⟨es,clock,hb,h2⟩:=h;exact⟨es,clock,hk.trans hb,h2⟩
theorem MapP.not {w:World} {D:Nat->Prop} {m:Nat} {E:List (Plc × Plc)} (h:MapP w D m E) (hD:DkS w D) {b:Nat} (hb:D b):b≠m:=by
 rintro rfl;obtain⟨es,clock,h1,-⟩:=h;obtain⟨⟨c,e,f,h2⟩,-⟩:=hD _ hb;rw[h1] at h2;cases h2
theorem MapP.made (w:World) (D:Nat->Prop):MapP (w.alloc (.map #[] 0)) D w.heap.size [] :=
 ⟨#[],0,(MapKept.heap_alloc w _).1,by simp[Ent],by simp⟩
theorem ent_push {es:List MapEntry} {E:List (Plc × Plc)} (h:Ent es E) {p q:Plc} (hp:lk E p=none) (b:Nat):Ent (es++[⟨plV p,plV q,b⟩]) (putP E p q):=by
 induction es generalizing E with
 | nil=>cases E with
  | nil=>exact⟨rfl,rfl,trivial⟩
  | cons=>exact absurd h (by simp[Ent])
 | cons e es ih=>cases E with
  | nil=>exact absurd h (by simp[Ent])
  | cons x E =>
   unfold lk at hp;split at hp
   ·cases hp
   ·rename_i hx
    unfold putP;rw[if_neg hx];exact⟨h.1,h.2.1,ih h.2.2 hp⟩
theorem ent_modify {es:List MapEntry} {E:List (Plc × Plc)} (h:Ent es E) {p q:Plc} {i j:Nat} {v:Value} (hj:ixP E p i=some (i+j,v)) :
  Ent (es.modify j fun e=>{ e with key:=plV p,val:=plV q }) (putP E p q):=by
 induction es generalizing E i j with
 | nil=>cases E with
  | nil=>simp[ixP] at hj
  | cons=>exact absurd h (by simp[Ent])
 | cons e es ih=>cases E with
  | nil=>exact absurd h (by simp[Ent])
  | cons x E =>
   unfold ixP at hj;unfold putP;split at hj
   ·rename_i hx
    obtain rfl:j=0:=by simp at hj;omega
    rw[if_pos hx];exact⟨rfl,rfl,h.2.2⟩
   ·rename_i hx
    rw[if_neg hx];cases j with
    | zero =>
     exfalso
     have:∀ (E:List (Plc × Plc)) (i k:Nat) (v:Value),ixP E p i=some (k,v)->i<=k:=by
      intro E;induction E with
      | nil=>intro i k v h;simp[ixP] at h
      | cons y E ihE =>
       intro i k v h;unfold ixP at h;split at h
       ·simp at h;omega
       ·have:=ihE _ _ _ h;omega
     have:=this _ _ _ _ hj;omega
    | succ j=>exact⟨h.1,h.2.1,ih h.2.2 (i:=i+1) (j:=j) (by rw[hj];congr 2;omega)⟩
set_option linter.unusedSimpArgs false
theorem equalX (w:World) {D:Nat->Prop} (hD:DkS w D) (p q:Plc) (hp:D p.a.block) (hq:D q.a.block) (d:Nat) :
  (Op.equalIn (d+2) 252 (plV p) (plV q)).run Tryz.prog w=.ok (decide (p=q)) w:=by
 have hfs:(Tryz.prog.fieldsOf 252).toList.map (fun f=>(f.name,f.type,f.offset))=[("first",250,0),("size",3,1)]:=by kernel_rfl
 have hst:Tryz.prog.underlying 252=some (.struct (Tryz.prog.fieldsOf 252)):=by kernel_rfl
 have hho:Tryz.prog.stoodInHeld 252=false:=by kernel_rfl
 have hpt:Tryz.prog.underlying 250=some (.pointer 54):=by kernel_rfl
 have hit:Tryz.prog.underlying 3=some (.int .i64):=by kernel_rfl
 obtain⟨f0,f1,hf,n0,t0,o0,n1,t1,o1⟩:∃ f0 f1:Field,(Tryz.prog.fieldsOf 252).toList=[f0,f1]/\f0.name = "first" /\ f0.type=250/\f0.offset=0/\f1.name = "size" /\ f1.type=3/\f1.offset=1:=by
  generalize (Tryz.prog.fieldsOf 252).toList=L at hfs;obtain⟨f0,f1,rfl⟩:=len_two (show L.length=2 by simpa using congrArg List.length hfs);simp at hfs;exact⟨f0,f1,rfl,hfs.1.1,hfs.1.2.1,hfs.1.2.2,hfs.2.1,hfs.2.2.1,hfs.2.2.2⟩
 have hsz:(Tryz.prog.info? 54).map (·.size)=some 4:=by kernel_rfl
 obtain⟨ie,hie,hies⟩:=Option.map_eq_some_iff.1 hsz;unfold plV;rw[show d+2=(d+1)+1 from rfl,run_equalIn_struct w (d+1) 252 _ _ hst hho,hf];by_cases ha:p.a=q.a
 ·have hsa:=run_sameAddr_same (P:=Tryz.prog) (w:=w) q.a
  by_cases hn:p.n=q.n
  ·have:p=q:=by cases p;cases q;simp_all
   simp[Op.eqFields,n0,t0,o0,n1,t1,o1,part,isAgg,run_underlying hpt,run_underlying hit,Op.equalIn,sizeOf,typeInfo,hie,hies,hsa,ha,hn,this]
  ·have:p≠q:=by rintro rfl;exact hn rfl
   simp[Op.eqFields,n0,t0,o0,n1,t1,o1,part,isAgg,run_underlying hpt,run_underlying hit,Op.equalIn,sizeOf,typeInfo,hie,hies,hsa,ha,hn,this]
 ·have hsa:=run_sameAddr_far (P:=Tryz.prog) w hD ha hp hq
  have:p≠q:=(by rintro rfl;exact ha rfl);simp[Op.eqFields,n0,t0,o0,n1,t1,o1,part,isAgg,run_underlying hpt,run_underlying hit,Op.equalIn,sizeOf,typeInfo,hie,hies,hsa,this]
theorem eqPtrX (w:World) {D:Nat->Prop} (hD:DkS w D) (p q:Plc) (hp:D p.a.block) (hq:D q.a.block) (d:Nat) :
  (Op.equalIn (d+1) 250 (.pointer (some p.a)) (.pointer (some q.a))).run Tryz.prog w=.ok (decide (p.a=q.a)) w:=by
 have hpt:Tryz.prog.underlying 250=some (.pointer 54):=by kernel_rfl
 have hsz:(Tryz.prog.info? 54).map (·.size)=some 4:=by kernel_rfl
 obtain⟨ie,hie,hies⟩:=Option.map_eq_some_iff.1 hsz;by_cases ha:p.a=q.a
 ·have hsa:=run_sameAddr_same (P:=Tryz.prog) (w:=w) q.a
  simp[run_underlying hpt,Op.equalIn,sizeOf,typeInfo,hie,hies,hsa,ha]
 ·have hsa:=run_sameAddr_far (P:=Tryz.prog) w hD ha hp hq
  simp[run_underlying hpt,Op.equalIn,sizeOf,typeInfo,hie,hies,hsa,ha]
theorem askX (w:World) {D:Nat->Prop} (hD:DkS w D) (p:Plc) (hp:D p.a.block):∀ (es:List MapEntry) (E:List (Plc × Plc)) (i:Nat),Ent es E->(∀ x∈E,D x.1.a.block) ->
  (Instr.findAsking 252 (plV p) es i).run Tryz.prog w=.ok (ixP E p i) w:=by
 intro es;induction es with
 | nil =>
  intro E i h _;cases E with
  | nil=>simp[Instr.findAsking,ixP]
  | cons=>exact absurd h (by simp[Ent])
 | cons e es ih =>
  intro E i h hE;cases E with
  | nil=>exact absurd h (by simp[Ent])
  | cons x E =>
   obtain⟨hk,hv,h⟩:=h;have he:(Op.equal 252 (plV p) e.key).run Tryz.prog w=.ok (decide (p=x.1)) w:=(by rw[hk];exact equalX w hD p x.1 hp (hE x List.mem_cons_self) 9998);by_cases hx:x.1=p
   ·have:decide (p=x.1)=true:=by simp[hx]
    rw[this] at he;simp[Instr.findAsking,he,ixP,hx,hv]
   ·have:decide (p=x.1)=false:=by simpa using fun e=>hx e.symm
    rw[this] at he;simp[Instr.findAsking,he,ixP,hx,ih E (i+1) h fun y hy=>hE y (List.mem_cons_of_mem _ hy)]
theorem findX (w:World) {D:Nat->Prop} (hD:DkS w D) (p:Plc) (hp:D p.a.block) (es:List MapEntry) (E:List (Plc × Plc)) (h:Ent es E) (hE:∀ x∈E,D x.1.a.block) :
  (Instr.findKey 252 (plV p) es).run Tryz.prog w=.ok (ixP E p 0) w:=by
 have hst:Tryz.prog.underlying 252=some (.struct (Tryz.prog.fieldsOf 252)):=by kernel_rfl
 have ha:=askX w hD p hp es E 0 h hE;cases es with
 | nil =>
  cases E with
  | nil=>simp[Instr.findKey,run_underlying hst,Instr.findNow,ixP]
  | cons=>exact absurd h (by simp[Ent])
 | cons e es =>
  have:Instr.findNow (.struct (Tryz.prog.fieldsOf 252)) (plV p) (e :: es) 0=none:=(by simp[Instr.findNow,Instr.sameNow]);simp[Instr.findKey,run_underlying hst,this,ha]
theorem checkNX (w:World) (em:Bool) (p:Plc) (d:Nat):(Instr.checkKey em (d+2) 252 (plV p)).run Tryz.prog w=.ok () w:=by
 have hfs:(Tryz.prog.fieldsOf 252).toList.map (fun f=>(f.name,f.type,f.offset))=[("first",250,0),("size",3,1)]:=by kernel_rfl
 have hst:Tryz.prog.underlying 252=some (.struct (Tryz.prog.fieldsOf 252)):=by kernel_rfl
 have hpt:Tryz.prog.underlying 250=some (.pointer 54):=by kernel_rfl
 have hit:Tryz.prog.underlying 3=some (.int .i64):=by kernel_rfl
 obtain⟨f0,f1,hf,n0,t0,o0,n1,t1,o1⟩:∃ f0 f1:Field,(Tryz.prog.fieldsOf 252).toList=[f0,f1]/\f0.name = "first" /\ f0.type=250/\f0.offset=0/\f1.name = "size" /\ f1.type=3/\f1.offset=1:=by
  generalize (Tryz.prog.fieldsOf 252).toList=L at hfs;obtain⟨f0,f1,rfl⟩:=len_two (show L.length=2 by simpa using congrArg List.length hfs);simp at hfs;exact⟨f0,f1,rfl,hfs.1.1,hfs.1.2.1,hfs.1.2.2,hfs.2.1,hfs.2.2.1,hfs.2.2.2⟩
 unfold plV;rw[show d+2=(d+1)+1 from rfl];simp[Instr.checkKey,run_underlying hst,<- Array.forIn_toList,hf,n0,t0,o0,n1,t1,o1,part,isAgg,run_underlying hpt,run_underlying hit]
theorem checkX (w:World) (em:Bool) (p:Plc):(Instr.checkKey em 10000 252 (plV p)).run Tryz.prog w=.ok () w:=checkNX w em p 9998
theorem zeroX (w:World):(zeroValue 252).run Tryz.prog w=.ok plZ w:=by kernel_rfl
theorem lookX {w:World} {D:Nat->Prop} (hD:DkS w D) {m:Nat} {E:List (Plc × Plc)} (h:MapP w D m E) (p:Plc) (hp:D p.a.block) :
  (Instr.lookup 205 (.map (some m)) (plV p) true).run Tryz.prog w=.ok (.tuple #[((lk E p).map plV).getD plZ,.bool (lk E p).isSome]) w:=by
 obtain⟨es,clock,hb,hE,hin⟩:=h;have hmt:Tryz.prog.underlying 205=some (.map 252 252):=by kernel_rfl
 have hf:=findX w hD p hp es.toList E hE fun x hx=>(hin x hx).1;cases hl:lk E p with
 | none =>
  rw[ixP_none hl] at hf;simp[Instr.lookup,run_underlying hmt,MapKept.run_getObj_map hb,checkX,hf,zeroX,plZ,Result.andThen]
 | some q =>
  obtain⟨j,hj,-⟩:=ixP_some (i:=0) hl;rw[hj] at hf;simp[Instr.lookup,run_underlying hmt,MapKept.run_getObj_map hb,checkX,hf,Result.andThen]
theorem updX {w:World} {D:Nat->Prop} (hD:DkS w D) {m:Nat} {E:List (Plc × Plc)} (h:MapP w D m E) (p q:Plc) (hp:D p.a.block) (hq:D q.a.block) :
  ∃ w',(Instr.mapUpdate 205 (.map (some m)) (plV p) (plV q)).run Tryz.prog w=.ok () w'/\MapP w' D m (putP E p q)/\w.grownBy w' (some m):=by
 obtain⟨es,clock,hb,hE,hin⟩:=h;have hmt:Tryz.prog.underlying 205=some (.map 252 252):=by kernel_rfl
 have hf:=findX w hD p hp es.toList E hE fun x hx=>(hin x hx).1;have hin':∀ x∈putP E p q,D x.1.a.block/\D x.2.a.block:=by
  intro x hx;rcases put_mem hx with rfl | hx
  ·exact⟨hp,hq⟩
  ·exact hin x hx
 cases hl:lk E p with
 | none =>
  rw[ixP_none hl] at hf;refine⟨setBlock w m (.map (es.push ⟨plV p,plV q,clock⟩) (clock+1)),?_,⟨_,_,heap_setBlock_same hb _,?_,hin'⟩,⟨rfl,rfl,rfl,by simp[setBlock],fun i _ hi=>heap_setBlock_other hb _ (fun e=>hi (by rw[e]))⟩⟩
  ·simp[Instr.mapUpdate,run_underlying hmt,MapKept.run_getObj_map hb,checkX,hf,MapKept.run_setObj_map _ hb,Result.andThen,setBlock]
  ·simpa using ent_push hE hl clock
 | some r =>
  obtain⟨j,hj,x,hx,rfl⟩:=ixP_some (i:=0) hl;rw[hj] at hf;have hj':ixP E x.1 0=some (0+j,plV r):=hj;have hkey:((es[j]?).map (·.key)).getD (plV x.1)=plV x.1:=by
   have:∀ (es:List MapEntry) (E:List (Plc × Plc)) (j:Nat),Ent es E->E[j]?=some x->(es[j]?).map (·.key)=some (plV x.1):=by
    intro es;induction es with
    | nil=>intro E j h hx;cases E with
     | nil=>simp at hx
     | cons=>exact absurd h (by simp[Ent])
    | cons e es ih=>intro E j h hx;cases E with
     | nil=>exact absurd h (by simp[Ent])
     | cons y E=>cases j with
      | zero=>simp at hx;subst hx;simp[h.1]
      | succ j=>simpa using ih E j h.2.2 (by simpa using hx)
   have:=this es.toList E j hE hx;rw[Array.getElem?_toList] at this;rw[this];rfl
  have hsb:Instr.sameBits 10000 (plV x.1) (plV x.1)=true:=sameBits_plV 9998 x.1;refine⟨setBlock w m (.map (es.modify j fun e=>{ e with key:=plV x.1,val:=plV q }) clock),?_,⟨_,_,heap_setBlock_same hb _,?_,hin'⟩,⟨rfl,rfl,rfl,by simp[setBlock],fun i _ hi=>heap_setBlock_other hb _ (fun e=>hi (by rw[e]))⟩⟩
  ·simp[Instr.mapUpdate,run_underlying hmt,MapKept.run_getObj_map hb,checkX,hf,hkey,Instr.keyThatStays,hsb,MapKept.run_setObj_map _ hb,Result.andThen,setBlock]
  ·have:=ent_modify hE (q:=q) hj'
   simpa using this
theorem wpList_noX {w:World} {ops:Array Oper} {rest:List Oper} {o:Oper} {a:Act} {Q:Exit->Act->World->Prop} (hg:o.guard=none) (m x:Operand) (hop:o.op=Op.lookup 205 m x true)
  {D:Nat->Prop} (hD:DkS w D) (mb:Nat) (E:List (Plc × Plc)) (hm:a.eval m=.map (some mb)) (h:MapP w D mb E) (p:Plc) (hx:a.eval x=plV p) (hp:D p.a.block) (hl:lk E p=none)
  (hK:wpList Tryz.prog ops Q rest (a.put o.dst (.tuple #[.agg #[.pointer none,.int .i64 0],.bool false])) w):wpList Tryz.prog ops Q (o :: rest) a w:=by
 refine wpList_plain hg fun K' hK'=>?_;have hr:=lookX hD h p hp;rw[hl] at hr;unfold Oper.wp;simp[execOp,hop,hm,hx,hr,Result.andThen];exact hK' _ _ hK
theorem wpList_yesX {w:World} {ops:Array Oper} {rest:List Oper} {o:Oper} {a:Act} {Q:Exit->Act->World->Prop} (hg:o.guard=none) (m x:Operand) (hop:o.op=Op.lookup 205 m x true)
  {D:Nat->Prop} (hD:DkS w D) (mb:Nat) (E:List (Plc × Plc)) (hm:a.eval m=.map (some mb)) (h:MapP w D mb E) (p:Plc) (hx:a.eval x=plV p) (hp:D p.a.block) (q:Plc) (hl:lk E p=some q)
  (hK:wpList Tryz.prog ops Q rest (a.put o.dst (.tuple #[.agg #[.pointer (some q.a),.int .i64 q.n],.bool true])) w):wpList Tryz.prog ops Q (o :: rest) a w:=by
 refine wpList_plain hg fun K' hK'=>?_;have hr:=lookX hD h p hp;rw[hl] at hr;unfold Oper.wp;simp[execOp,hop,hm,hx,hr,Result.andThen];exact hK' _ _ hK
theorem wpList_updX {w:World} {ops:Array Oper} {rest:List Oper} {o:Oper} {a:Act} {Q:Exit->Act->World->Prop} (hg:o.guard=none) (m x v:Operand) (hop:o.op=Op.mapUpdate 205 m x v)
  {D:Nat->Prop} (hD:DkS w D) (mb:Nat) (E:List (Plc × Plc)) (hm:a.eval m=.map (some mb)) (h:MapP w D mb E) (p q:Plc) (hx:a.eval x=plV p) (hv:a.eval v=plV q) (hp:D p.a.block) (hq:D q.a.block)
  (hK:∀ w',MapP w' D mb (putP E p q)->w.grownBy w' (some mb)->wpList Tryz.prog ops Q rest (a.put o.dst undef) w'):wpList Tryz.prog ops Q (o :: rest) a w:=by
 refine wpList_plain hg fun K' hK'=>?_;obtain⟨w',hrun,r1,r2⟩:=updX hD h p q hp hq;unfold Oper.wp;simp[execOp,hop,hm,hx,hv,hrun,Result.andThen];exact hK' _ _ (hK w' r1 r2)
end Go.Proofs.YtkbijjkgfojchaaGreat
namespace Go.Proofs.YtkbijjkgfojchaaGreat
open Go.RowKit
set_option maxRecDepth 8000
set_option linter.unusedSimpArgs false
theorem heap_setCell_same {w:World} {b:Nat} {c:Array Value} {t:TypeId} {f:Nat × Nat} (h:w.heap[b]?=some (.cells c t f)) (o:Nat) (v:Value):(w.setCell ⟨b,o,none⟩ v).heap[b]?=some (.cells (c.setIfInBounds o v) t f):=by
 have hlt:=(Array.getElem?_eq_some_iff.1 h).1;have h':w.heap[b]=.cells c t f:=by simpa [Array.getElem?_eq_getElem hlt] using h
 show(w.heap.modify b _)[b]?=_
 rw[Array.getElem?_eq_getElem (by simpa using hlt),Array.getElem_modify_self,h'];rfl
theorem two_setCell {w:World} {b:Nat} {x y u v:Value} {t:TypeId} (h:w.heap[b]?=some (.cells #[x,y] t (0,0))):((w.setCell ⟨b,0,none⟩ u).setCell ⟨b,1,none⟩ v).heap[b]?=some (.cells #[u,v] t (0,0)):=by
 rw[heap_setCell_same (heap_setCell_same h 0 u) 1 v];rfl
theorem grown_set {w wr:World} {row:Option Nat} (h:w.grownBy wr row) (a:Addr) (ha:w.heap.size<=a.block) (v:Value):w.grownBy (wr.setCell a v) row :=
 ⟨h.os,h.tape,h.output,by simpa using h.size,fun k hk hne=>by rw[heap_setCell_other _ _ _ _ (by omega)];exact h.block k hk hne⟩
def StJX (w:World) (D:Nat->Prop) (m:Nat) (E:List (Plc × Plc)) (p0:Plc) (k:Nat) (wr:World):Prop :=
 ∃ E' p,Up (lk E') p k/\AllUp (lk E')/\Alk E E'/\Leads E' p0 p/\D p.a.block/\MapP wr D m E'/\(∀ r,lk E r=none->lk E' r=none) /\
  wr.heap[w.heap.size+1]?=some (.cells #[.pointer (some p.a),.int .i64 p.n] 252 (0,0))/\wr.heap[w.heap.size]?=some (.cells #[.pointer none,.int .i64 0] 252 (0,0))/\w.grownBy wr (some m)
theorem standsX_any (w:World) (D:Nat->Prop) (m:Nat) (E:List (Plc × Plc)) (b off n cap:Nat) (hn:0<n) (hD:DkS w D) (hb:D b) (hm:MapP w D m E) (hu:AllUp (lk E)) :
  Calls Tryz.prog 186 #[.map (some m),.slice (some ⟨b,off,none⟩) n cap] w fun e w' =>
   ∃ r E',e=.returned (.agg #[.pointer (some r.a),.int .i64 r.n])/\MapP w' D m E'/\AllUp (lk E')/\Alk E E'/\Leads E' ⟨⟨b,off,none⟩,n⟩ r/\lk E' r=none/\D r.a.block/\(∀ r,lk E r=none->lk E' r=none)/\w.grownBy w' (some m):=by
 have hml:=hm.lt;have hbl:=hD.lt hb;have hDm:=Hid.mk (fun b (h:D b)=>hm.not hD h);obtain⟨k0,hk0⟩:=hu ⟨⟨b,off,none⟩,n⟩;have HM:=Hid.mk hm;have HD:=Hid.mk hD;have HU:=Hid.mk hu;have HB:=Hid.mk hb;have HK:=Hid.mk hk0;clear hm hD hu hb hk0;go_enter Tryz.func186,Tryz.ntmps186
 go_wp2;have hW0:Hid (StJX w D m E ⟨⟨b,off,none⟩,n⟩ k0 ((w.alloc (.cells #[.pointer none,.int .i64 0] 252)).alloc (.cells #[.pointer (some ⟨b,off,none⟩),.int .i64 n] 252))):=by
  refine⟨E,⟨⟨b,off,none⟩,n⟩,HK.out,HU.out,Alk.refl E,Leads.refl E _,HB.out,HM.out.kept ?_,fun _ h=>h,?_,?_,(World.grownBy_alloc w _ _).trans (World.grownBy_alloc _ _ _)⟩
  ·rw[(World.grownBy_alloc (w.alloc _) _ none).block _ (by simp;omega) (by simp),(World.grownBy_alloc w _ none).block _ hml (by simp)]
  ·simpa using (MapKept.heap_alloc (w.alloc (.cells #[.pointer none,.int .i64 0] 252)) (.cells #[.pointer (some ⟨b,off,none⟩),.int .i64 n] 252)).1
  ·rw[(World.grownBy_alloc (w.alloc _) _ none).block _ (by simp) (by simp)];exact(MapKept.heap_alloc w _).1
 go_loopg [] k0 (fun k wr=>Hid (StJX w D m E ⟨⟨b,off,none⟩,n⟩ k wr))
 case atStart=>exact hW0
 case round =>
  obtain⟨E',p,hup,hall,hal,hle,hdp,hmp,hro,hc1,hc0,hgr⟩:=hrel.out;clear hrel hW0;have hDr:DkS wr D:=HD.out.kept fun b hb=>hgr.block b (HD.out.lt hb) (by intro e;exact hDm.out b hb (by simpa using e));have hs:=hgr.size;have l1:=(Array.getElem?_eq_some_iff.1 hc1).1;have c10:wr.cell? ⟨w.heap.size+1,0,none⟩=some (.pointer (some p.a)):=(by rw[cell_of_row wr _ 0 _ _ (0,0) hc1];rfl);have c11:wr.cell? ⟨w.heap.size+1,1,none⟩=some (.int .i64 p.n):=(by rw[cell_of_row wr _ 1 _ _ (0,0) hc1];rfl);have c00:wr.cell? ⟨w.heap.size,0,none⟩=some (.pointer none):=(by rw[cell_of_row wr _ 0 _ _ (0,0) hc0];rfl);have c01:wr.cell? ⟨w.heap.size,1,none⟩=some (.int .i64 0):=(by rw[cell_of_row wr _ 1 _ _ (0,0) hc0];rfl);have l0:w.heap.size<wr.heap.size:=(by omega);have n0:w.heap.size≠wr.heap.size:=(by omega);have n1:w.heap.size+1≠wr.heap.size:=(by omega);have f1:∀ o,wr.frozen? ⟨w.heap.size+1,o,none⟩=false:=fun o=>by simp[World.frozen?,hc1]
  have f0:∀ o,wr.frozen? ⟨w.heap.size,o,none⟩=false:=fun o=>by simp[World.frozen?,hc0]
  cases hl:lk E' p with
  | none =>
   go_wp2_with (first | (at_lookup;refine wpList_noX rfl _ _ rfl hDr m E' rfl hmp p rfl hdp hl ?_) | go_in)
   have hrow:∀ o,(((wr.setCell ⟨w.heap.size,0,none⟩ (.pointer (some p.a))).setCell ⟨w.heap.size,1,none⟩ (.int .i64 p.n)).alloc o).heap[w.heap.size]?=some (.cells #[.pointer (some p.a),.int .i64 p.n] 252 (0,0)):=by
    intro o;rw[(World.grownBy_alloc _ o none).block _ (by simpa using l0) (by simp)];exact two_setCell hc0
   have hst:Tryz.prog.underlying 252=some (.struct (Tryz.prog.fieldsOf 252)):=(by kernel_rfl)
   try simp only[Exit.inBlock,Exit.then]
   refine bodyPost_ret (results_cell_row (p:=4) (ty:=252) (by kernel_rfl) _ _ w.heap.size _ _ _ _ rfl (hrow _) hst rfl (by kernel_rfl)) rfl ?_;refine⟨p,E',rfl,?_,hall,hal,hle,hl,hdp,hro,?_⟩
   ·refine hmp.kept ?_
    rw[(World.grownBy_alloc _ _ none).block _ (by simpa using hmp.lt) (by simp),heap_setCell_other _ _ _ _ (by show m≠w.heap.size;omega),heap_setCell_other _ _ _ _ (by show m≠w.heap.size;omega)]
   ·exact(grown_set (grown_set hgr _ (Nat.le_refl _) _) _ (Nat.le_refl _) _).trans (World.grownBy_alloc _ _ _)
  | some q =>
   obtain⟨k1,rfl,hup1⟩:=hup.next hl;have hdq:D q.a.block:=by
    obtain⟨es,clock,-,-,hin⟩:=hmp;exact(hin _ (lk_mem hl)).2
   have HDA:∀ o,DkS (wr.alloc o) D:=fun o=>hDr.kept fun b hb=>(World.grownBy_alloc wr o none).block b (hDr.lt hb) (by simp);have HMA:∀ o,MapP (wr.alloc o) D m E':=fun o=>hmp.kept ((World.grownBy_alloc wr o none).block m hmp.lt (by simp));cases hl2:lk E' q with
   | none =>
    go_wp2_with (first | (at_lookup;refine wpList_yesX rfl _ _ rfl hDr m E' rfl hmp p rfl hdp q hl ?_) | (at_lookup;refine wpList_noX rfl _ _ rfl (HDA _) m E' rfl (HMA _) q rfl hdq hl2 ?_) | go_in)
    go_roundg k1
    case measure=>omega
    case rel =>
     refine⟨E',q,hup1,hall,hal,hle.on hl,hdq,?_,hro,?_,?_,?_⟩
     ·refine hmp.kept ?_
      rw[(World.grownBy_alloc _ _ none).block _ (by simpa using Nat.lt_succ_of_lt hmp.lt) (by simp),(World.grownBy_alloc _ _ none).block _ (by simpa using hmp.lt) (by simp),heap_setCell_other _ _ _ _ (by show m≠w.heap.size+1;omega),heap_setCell_other _ _ _ _ (by show m≠w.heap.size+1;omega)]
     ·rw[(World.grownBy_alloc _ _ none).block _ (by simp;omega) (by simp),(World.grownBy_alloc _ _ none).block _ (by simpa using l1) (by simp)]
      exact two_setCell hc1
     ·rw[(World.grownBy_alloc _ _ none).block _ (by simp;omega) (by simp),(World.grownBy_alloc _ _ none).block _ (by simpa using l0) (by simp),heap_setCell_other _ _ _ _ (by show w.heap.size≠w.heap.size+1;omega),heap_setCell_other _ _ _ _ (by show w.heap.size≠w.heap.size+1;omega)]
      exact hc0
     ·exact((grown_set (grown_set hgr _ (Nat.le_succ _) _) _ (Nat.le_succ _) _).trans (World.grownBy_alloc _ _ _)).trans (World.grownBy_alloc _ _ _)
   | some f =>
    have hdf:D f.a.block:=by
     obtain⟨es,clock,-,-,hin⟩:=hmp;exact(hin _ (lk_mem hl2)).2
    have HDB:∀ o o',DkS ((wr.alloc o).alloc o') D:=fun o o'=>(HDA o).kept fun b hb=>(World.grownBy_alloc _ o' none).block b ((HDA o).lt hb) (by simp);have HMB:∀ o o',MapP ((wr.alloc o).alloc o') D m E':=fun o o'=>(HMA o).kept ((World.grownBy_alloc _ o' none).block m (HMA o).lt (by simp));have HGB:∀ o o',wr.grownBy ((wr.alloc o).alloc o') (some m):=fun o o'=>(World.grownBy_alloc wr o _).trans (World.grownBy_alloc _ o' _);have HNB:∀ o o',((wr.alloc o).alloc o').heap[wr.heap.size]?=some o:=fun o o'=>((World.grownBy_alloc _ o' none).block _ (by simp) (by simp)).trans (MapKept.heap_alloc wr o).1;have hmlr:=hmp.lt;go_wp2_with (first | (at_lookup;refine wpList_yesX rfl _ _ rfl hDr m E' rfl hmp p rfl hdp q hl ?_) | (at_lookup;refine wpList_yesX rfl _ _ rfl (HDA _) m E' rfl (HMA _) q rfl hdq f hl2 ?_) | (at_mapUpdate;refine wpList_updX rfl _ _ _ rfl (HDB _ _) m E' rfl (HMB _ _) p f rfl rfl hdp hdf ?_;intro w1 hm1 hg1;have hgb1:=(HGB (.cells #[.pointer (some q.a),.int .i64 q.n] 252) (.cells #[.pointer (some f.a),.int .i64 f.n] 252)).trans hg1;have hnb1:=(hg1.block wr.heap.size (by simp;omega) (by intro e;simp at e;omega)).trans (HNB (.cells #[.pointer (some q.a),.int .i64 q.n] 252) (.cells #[.pointer (some f.a),.int .i64 f.n] 252));have l3:w1.heap.size > wr.heap.size:=(Array.getElem?_eq_some_iff.1 hnb1).1;have hb1:w1.heap[w.heap.size+1]?=wr.heap[w.heap.size+1]?:=hgb1.block _ l1 (by intro e;simp at e;omega);have hb0:w1.heap[w.heap.size]?=wr.heap[w.heap.size]?:=hgb1.block _ l0 (by intro e;simp at e;omega);rw[hc1] at hb1;rw[hc0] at hb0;have c20:w1.cell? ⟨wr.heap.size,0,none⟩=some (.pointer (some q.a)):=(by rw[cell_of_row w1 _ 0 _ _ (0,0) hnb1];rfl);have c21:w1.cell? ⟨wr.heap.size,1,none⟩=some (.int .i64 q.n):=(by rw[cell_of_row w1 _ 1 _ _ (0,0) hnb1];rfl);have c30:w1.cell? ⟨w.heap.size+1,0,none⟩=some (.pointer (some p.a)):=(by rw[cell_of_row w1 _ 0 _ _ (0,0) hb1];rfl);have c31:w1.cell? ⟨w.heap.size+1,1,none⟩=some (.int .i64 p.n):=(by rw[cell_of_row w1 _ 1 _ _ (0,0) hb1];rfl);have f3:∀ o,w1.frozen? ⟨w.heap.size+1,o,none⟩=false:=fun o=>(by simp[World.frozen?,hb1])) | go_in)
    obtain⟨k2,hk2,hup2⟩:=up_half hl hl2 (lk_put E' p f) k1 q hup1;have hle2:=(hle.on hl).alk (alk_half hl hl2);have hro2:∀ r,lk E r=none->lk (putP E' p f) r=none:=by
     intro r hr;have h1:=hro r hr;rw[lk_put];by_cases e:p=r
     ·subst e;rw[hl] at h1;cases h1
     ·rw[if_neg e];exact h1
    have hgw:=hgr.trans hgb1;have HR:Hid (∀ wz,wz.heap[w.heap.size+1]?=some (.cells #[.pointer (some q.a),.int .i64 q.n] 252 (0,0))->wz.heap[w.heap.size]?=w1.heap[w.heap.size]?->wz.heap[m]?=w1.heap[m]?->w.grownBy wz (some m)->StJX w D m E ⟨⟨b,off,none⟩,n⟩ k2 wz):=fun wz h1 h0 h2 h3 =>
     ⟨_,q,hup2,allUp_half hl hl2 hall,hal.trans (alk_half hl hl2),hle2,hdq,hm1.kept h2,hro2,h1,h0.trans hb0,h3⟩
    clear hup2 hle2 hro2 hall hal hle hro hm1 hup1 hup hdq hdf hdp hmp HM HD HU HB HK hDm hl hl2 hDr;go_roundg k2
    case measure=>omega
    case rel =>
     refine HR.out _ (two_setCell hb1) ?_ ?_ (grown_set (grown_set hgw _ (Nat.le_succ _) _) _ (Nat.le_succ _) _)
     ·rw[heap_setCell_other _ _ _ _ (by show w.heap.size≠w.heap.size+1;omega),heap_setCell_other _ _ _ _ (by show w.heap.size≠w.heap.size+1;omega)]
     ·rw[heap_setCell_other _ _ _ _ (by show m≠w.heap.size+1;omega),heap_setCell_other _ _ _ _ (by show m≠w.heap.size+1;omega)]
end Go.Proofs.YtkbijjkgfojchaaGreat
