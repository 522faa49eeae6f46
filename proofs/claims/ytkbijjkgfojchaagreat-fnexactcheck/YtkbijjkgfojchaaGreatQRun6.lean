/- RexOk,the program's: it goes through the parts and counts down. Whether an expression can match a text at all: the prog .. -/
import Derived.Maps.AppendAt
import Derived.Deep.RegionHeld3
import Derived.Test.YtkbijjkgfojchaaGreatQRun5
namespace Go.Proofs.YtkbijjkgfojchaaGreat
set_option maxHeartbeats 2000000
open Go.RowKit
set_option maxRecDepth 8000
def RoomC (f:Nat):Prop:=∀ (t:Tr) (B:Nat->Prop) (v:Value) (w:World) (r:Int),Rl w B t.l v->t.s.size<=maxLen->0<=r->r<=60 ->
 Calls Tryz.prog 266 #[rx t.k t.s v,.int .i64 (f:Int),.int .i64 r,.func (.func 267) #[] #[],.func (.func 268) #[] #[]] w fun e w'=>e=.returned (.int .i64 (roomF f t r))/\Below w.heap.size w w'
theorem ret_i {a b:Int} (h:a=b):Ending.returned (.int .i64 a)=.returned (.int .i64 b):=by rw[h]
theorem rexParts_any (k:Int) (s:ByteArray) (v:Value) (w:World) (hv:∃ ao n cap,v=.slice ao n cap) :
  Calls Tryz.prog 268 #[rx k s v] w fun e w'=>e=.returned v/\Below w.heap.size w w':=by
 obtain⟨ao,n,cap,rfl⟩:=hv;go_enter Tryz.func268,Tryz.ntmps268
 go_wp2;go_ret;exact⟨rfl,(Below.refl _ _).alloc (Nat.le_refl _) _⟩
theorem room_zero:RoomC 0:=by
 intro t B v w r h hs h0 h1;obtain⟨ao,cap,rfl,hl1,hl2,hl3⟩:=h.len;obtain⟨k,hk⟩:∃ k,t.k=k:=⟨_,rfl⟩;obtain⟨s,hsn⟩:∃ s,t.s=s:=⟨_,rfl⟩;have HR:Hid (roomF 0 t r = -1):=rfl;rw[hk,hsn];clear h;go_enter Tryz.func266,Tryz.ntmps266
 go_wp2;go_ret;exact⟨ret_i HR.out.symm,(Below.refl _ _).alloc (Nat.le_refl _) _⟩
theorem room_succ (f:Nat) (hf:f<=5) (ih:RoomC f):RoomC (f+1):=by
 intro t B v w r h hs h0 h1;have HNB:=Hid.mk (fun(w':World) (hb:Below w.heap.size w w')=>implNode_any t B v w' (h.grow hb) hs);have HE:Hid (roomF (f+1) t r=if r=0\/nodeB t=false then -1 else t.l.foldl (roomG (roomF f)) (r-1)):=rfl;obtain⟨R,hR⟩:∃ R,roomF (f+1) t r=R:=⟨_,rfl⟩;obtain⟨nb,hnb⟩:∃ nb,nodeB t=nb:=⟨_,rfl⟩;obtain⟨k,hk⟩:∃ k,t.k=k:=⟨_,rfl⟩;obtain⟨s,hsn⟩:∃ s,t.s=s:=⟨_,rfl⟩;obtain⟨l,hln⟩:∃ l,t.l=l:=⟨_,rfl⟩;rw[hk,hsn,hnb] at HNB;rw[hR,hnb,hln] at HE;rw[hln] at h;rw[hk,hsn,hR];clear hR hnb hk hsn hln hs;obtain⟨ao,cap,rfl,hl1,hl2,hl3⟩:=h.len;have hm:cap<=9223372036854775807:=by unfold maxLen at hl2;omega
 have HH:=Hid.mk h;have HI:=Hid.mk ih;clear ih h hl2;have B0:Below w.heap.size w (w.alloc (.cells #[.int .i64 k,.string s,.slice ao l.length cap] 258)):=(Below.refl _ _).alloc (Nat.le_refl _) _;obtain⟨d,hd⟩:∃ d:Int,((f+1:Nat):Int)=d:=⟨_,rfl⟩;rw[hd];have hd6:(d==0)=false:=beq_eq_false_iff_ne.2 (by omega);have hd7:d-1=(f:Int):=by omega
 have hd8:0<=d:=by omega
 have hd9:d<=6:=by omega
 have HPT:=Hid.mk (fun w'=>rexParts_any k s (.slice ao l.length cap) w' ⟨_,_,_,rfl⟩);by_cases hr0:r=0
 ·subst hr0
  have HR:Hid (R = -1):=(by show _=_;rw[HE.out,if_pos (Or.inl rfl)]);clear HE HNB HI HH;go_enter Tryz.func266,Tryz.ntmps266
  go_wp2;go_ret;exact⟨ret_i HR.out.symm,B0⟩
 have hrb:(r==0)=false:=beq_eq_false_iff_ne.2 hr0;cases nb with
 | false =>
  have HR:Hid (R = -1):=(by show _=_;rw[HE.out,if_pos (Or.inr rfl)]);clear HE HI HH;go_enter Tryz.func266,Tryz.ntmps266
  go_wp2_with fail
  refine(HNB.out _ B0).mono ?_;rintro e w1 ⟨rfl,hb1⟩;have B1:=B0.trans (hb1.mono (by simp));clear B0 hb1 HNB;go_wp2;go_ret;exact⟨ret_i HR.out.symm,B1⟩
 | true =>
  have HR:Hid (R=l.foldl (roomG (roomF f)) (r-1)):=(by show _=_;rw[HE.out,if_neg (by simpa using hr0)]);clear HE;go_enter Tryz.func266,Tryz.ntmps266
  go_wp2_with fail
  refine(HNB.out _ B0).mono ?_;rintro e w1 ⟨rfl,hb1⟩;have B1:=B0.trans (hb1.mono (by simp));have hc1:=fun o=>hb1.cell (p:=⟨w.heap.size,o,none⟩) (by simp);have hs1:=hb1.size;simp at hs1;clear B0 hb1 HNB;have hr1:0<=r-1:=(by omega);go_wp2_with fail
  refine(HPT.out _).mono ?_;rintro e w2 ⟨rfl,hb2⟩;have B2:=B1.trans (hb2.mono B1.size);clear B1 hb2 hc1 HPT;go_wp2;go_loopw [2,31] (fun q i wr=>∃ (k:Nat) (m:Int),k<=l.length/\i=.int .i64 k/\q=.int .i64 m/\0<=m/\m<=60/\Hid (m=(l.take k).foldl (roomG (roomF f)) (r-1))/\Below w.heap.size w wr) (fun _ i _=>l.length-(intOf i).toNat)
  case atStart=>exact⟨0,r-1,Nat.zero_le _,rfl,rfl,by omega,by omega,rfl,B2⟩
  case round =>
   obtain⟨k,m,hk,rfl,rfl,m0,m1,Hm,hbel⟩:=hrel;clear B2;by_cases hkl:k<l.length
   ·obtain⟨b,off,V,rfl,hel⟩:=HH.out.elems (by intro hn;rw[hn] at hkl;simp at hkl)
    obtain⟨h3,hsub,hss⟩:=hel k hkl;have HT:=Hid.mk (room_take (f:=f) l k (r-1) hkl);have HC:=Hid.mk (room_cut (f:=f) l (k+1) (r-1));obtain⟨t,ht⟩:∃ t,l[k]=t:=⟨_,rfl⟩;rw[ht] at h3 hsub hss HT;clear ht hel;obtain⟨c0,c1,c2⟩:=h3.kept (w':=wr) (hbel.block b (World.block_lt_of_cell? w _ h3.1));have hs1:=hbel.size;have HCall:=Hid.mk (fun(w':World) (hb:Below w.heap.size w w')=>HI.out t B (V k) w' m (hsub.grow hb) hss m0 m1);obtain⟨bd0,bd1⟩:=room_bd f t m m0;obtain⟨av,cv,hv,-,-,-⟩:=hsub.len;rw[hv] at c2 HCall;obtain⟨tk,htk⟩:∃ tk,t.k=tk:=⟨_,rfl⟩;obtain⟨ts,hts⟩:∃ ts,t.s=ts:=⟨_,rfl⟩;rw[htk,hts] at HCall;rw[htk] at c0;rw[hts] at c1;obtain⟨q,hq⟩:∃ q,roomF f t m=q:=⟨_,rfl⟩;rw[hq] at bd0 bd1 HCall;have HQ:Hid ((l.take (k+1)).foldl (roomG (roomF f)) (r-1)=q):=by
     show _=_
     rw[HT.out,<- Hm.out,roomG,if_neg (by omega),hq]
    have hi1:(k:Int)<(l.length:Int):=(by omega);have B2:=hbel.alloc hs1 (.cells #[.int .i64 tk,.string ts,.slice av t.l.length cv] 258);clear hsub hss h3 hv HT Hm hq htk hts hbel;by_cases hq0:q<0
    ·have HF:Hid (R = -1):=by show _=_;rw[HR.out];exact HC.out (by rw[HQ.out];omega)
     clear HQ HC;go_wp2_with fail
     refine(HCall.out _ B2).mono ?_;rintro e w2 ⟨rfl,hb2⟩;have B3:=B2.trans (hb2.mono (by simp;omega));clear B2 hb2 HCall;go_wp2;go_ret;exact⟨ret_i HF.out.symm,B3⟩
    ·clear HC
     go_wp2_with fail
     refine(HCall.out _ B2).mono ?_;rintro e w2 ⟨rfl,hb2⟩;have B3:=B2.trans (hb2.mono (by simp;omega));clear B2 hb2 HCall;go_wp2;go_roundw
     case rel=>exact⟨k+1,q,by omega,by go_num,rfl,by omega,by omega,HQ.out.symm,B3⟩
     case measure=>simp[intOf];omega
   ·have e:k=l.length:=by omega
    subst e;have HF:Hid (R=m):=(by show _=_;rw[HR.out,Hm.out,List.take_length]);clear Hm;go_wp2;go_ret;exact⟨ret_i HF.out.symm,hbel⟩
theorem implRexOk_any (t:Tr) (B:Nat->Prop) (v:Value) (w:World) (h:Rl w B t.l v) (hs:t.s.size<=maxLen) :
  Calls Tryz.prog 262 #[rx t.k t.s v] w fun e w'=>e=.returned (.bool (okR t))/\Below w.heap.size w w':=by
 have R6:RoomC 6:=room_succ 5 (by omega) (room_succ 4 (by omega) (room_succ 3 (by omega) (room_succ 2 (by omega) (room_succ 1 (by omega) (room_succ 0 (by omega) room_zero)))));have HC:=Hid.mk (fun(w':World) (hb:Below w.heap.size w w')=>R6 t B v w' 60 (h.grow hb) hs (by omega) (by omega));have HO:=Hid.mk (okR_room t);obtain⟨b,hb⟩:∃ b,okR t=b:=⟨_,rfl⟩;obtain⟨q,hq⟩:∃ q,roomF 6 t 60=q:=⟨_,rfl⟩;obtain⟨k,hk⟩:∃ k,t.k=k:=⟨_,rfl⟩;obtain⟨s,hsn⟩:∃ s,t.s=s:=⟨_,rfl⟩;rw[hk,hsn,hq] at HC;rw[hb,hq] at HO;rw[hk,hsn,hb];obtain⟨ao,cap,rfl,hl1,hl2,hl3⟩:=h.len;have B0:Below w.heap.size w (w.alloc (.cells #[.int .i64 k,.string s,.slice ao t.l.length cap] 258)):=(Below.refl _ _).alloc (Nat.le_refl _) _;clear h hk hsn hq hb R6 hl2;go_enter Tryz.func262,Tryz.ntmps262
 go_wp2_with fail
 refine(HC.out _ B0).mono ?_;rintro e w1 ⟨rfl,hb1⟩;have B1:=B0.trans (hb1.mono (by simp));clear B0 hb1 HC;go_wp2;go_ret;exact⟨ret_b HO.out,B1⟩
def Nigh (w0:World) (v0:Value) (w:World) (v:Value):Prop :=
 w0.grownBy w v0.ownBlock/\(v.ownBlock=v0.ownBlock\/∀ k,v.ownBlock=some k->w0.heap.size<=k)
theorem Nigh.refl (w:World) (v:Value):Nigh w v w v:=⟨World.grownBy.refl _ _,Or.inl rfl⟩
theorem Nigh.trans {w0 w w':World} {v0 v v':Value} (h:Nigh w0 v0 w v) (hh:Nigh w v w' v'):Nigh w0 v0 w' v':=by
 obtain⟨hg,hv⟩:=hh;have hs:=h.1.size;refine⟨⟨hg.os.trans h.1.os,hg.tape.trans h.1.tape,hg.output.trans h.1.output,Nat.le_trans hs hg.size,fun k hk hne=>?_⟩,?_⟩
 ·refine(hg.block k (Nat.lt_of_lt_of_le hk hs) ?_).trans (h.1.block k hk hne)
  rcases h.2 with h2 | h2
  ·rw[h2];exact hne
  ·intro e;have:=h2 k e.symm;omega
 ·rcases hv with hv | hv
  ·rw[hv];exact h.2
  ·exact Or.inr fun k hk=>by have:=hv k hk;omega
theorem Nigh.step {w0 w w':World} {v0 v v':Value} (h:Nigh w0 v0 w v) (hg:w.grownBy w' v.ownBlock) (hv:v'.ownBlock=v.ownBlock\/v'.ownBlock=some w.heap.size):Nigh w0 v0 w' v' :=
 h.trans ⟨hg,hv.imp id fun h k hk=>by rw[h] at hk;simp at hk;omega⟩
theorem Nigh.grow {w0 w w':World} {v0 v:Value} (h:Nigh w0 v0 w v) (hb:Below w.heap.size w w'):Nigh w0 v0 w' v :=
 h.trans ⟨⟨hb.os,hb.tape,hb.output,hb.size,fun k hk _=>hb.block k hk⟩,Or.inl rfl⟩
theorem Nigh.alloc {w0 w:World} {v0 v:Value} (h:Nigh w0 v0 w v) (o:Obj):Nigh w0 v0 (w.alloc o) v:=h.grow ((Below.refl _ _).alloc (Nat.le_refl _) _)
theorem Nigh.below {w0 w:World} {v0 v:Value} {base:Nat} {xs:List Int} (h:Nigh w0 v0 w v) (ho:Own w0 base v0 xs) (hb:base<=w0.heap.size):Below base w0 w :=
 (Below.refl _ _).grown h.1 hb fun k hk=>(ho.lt k hk).1
theorem Nigh.block {w0 w:World} {v0 v:Value} (h:Nigh w0 v0 w v) {b:Nat} (hb:b<w0.heap.size) (hne:v0.ownBlock≠some b):w.heap[b]?=w0.heap[b]? :=
 h.1.block b hb fun e=>hne e.symm
theorem wpList_append_nigh {w0 w:World} {ops:Array Oper} {rest:List Oper} {o:Oper} {a:Act} {Q:Exit->Act->World->Prop} (hgd:o.guard=none) (s x:Operand)
  (ho:o.op=.call { callee:=.builtin .append,args:=#[s,x],argTypes:=#[22,22] })
  (base:Nat) (v0 v u:Value) (xs zs:List Int) (hs:a.eval s=v) (hown:Own w base v xs) (hx:a.eval x=u) (hu:Bs w u zs) (hz:0<zs.length)
  (hn:Nigh w0 v0 w v) (hbase:base<=w.heap.size) (hlen:xs.length+zs.length<=1073741824)
  (h:∀ v' w',Own w' base v' (xs++zs)->Nigh w0 v0 w' v'->base<=w'.heap.size->wpList Tryz.prog ops Q rest (a.put o.dst v') w') :
  wpList Tryz.prog ops Q (o :: rest) a w:=by
 obtain⟨i0,hi,hz0,hz1,hz2⟩:=info_parts info5;obtain⟨b,off,cap,rfl,hl,hm⟩:=hu.addr hz;refine wpList_append_own_at w hgd s x 22 ho base 5 i0 (.int .u8 0) 1 1 Tryz.underlying22 hi hz0 hz1 hz2 rfl (by decide) v xs.length (U8 xs) hs hown _ zs.length cap (U8 zs) hx
  (by simp[U8]) ?_ (ints_oneCell .u8 zs) (by unfold maxLen;omega) (by omega) hbase ?_
 ·intro j q hq
  have hj:j<zs.length:=(by have:=(List.getElem?_eq_some_iff.1 hq).1;simpa [U8] using this);rw[Addr.add_lit,hu.cellAt hj];rw[U8_get zs j hj] at hq;exact hq
 ·intro v' w' hown' hgr _ hv
  refine h v' w' ?_ (hn.step hgr hv) (Nat.le_trans hbase hgr.size);unfold Own;rw[U8_append,List.length_append];exact hown'
theorem run_append_str_at {w:World} (ty:TypeId) (base:Nat) (v:Value) (t:ByteArray) (xs:List Int) (hown:Own w base v xs) (hbase:base<=w.heap.size) (hlen:xs.length+t.size<=1073741824) :
  ∃ v' w',(Builtin.append_ #[22,9] ty #[v,.string t]).run Tryz.prog w=.ok v' w'/\Own w' base v' (xs++txt t)/\w.grownBy w' v.ownBlock/\(v'.ownBlock=v.ownBlock\/v'.ownBlock=some w.heap.size):=by
 obtain⟨i0,hi,hz0,hz1,hz2⟩:=info_parts info5;obtain⟨v',w',hr,ho,hg,hn⟩:=Lib.run_append_own_string (P:=Tryz.prog) w base 22 9 ty 5 i0 Tryz.underlying22 Tryz.underlying9 hi hz0 hz1 hz2 v xs.length (U8 xs) hown t (by unfold maxLen;omega) (by omega) hbase;refine⟨v',w',hr,?_,hg,?_⟩
 ·unfold Own
  rw[U8_append,List.length_append,txt_length,<- txt_cells];exact ho
 ·rcases hown.2 with⟨rfl,h0⟩ | ⟨g,cap,cur,rfl,hbg,hgc,hnc,hcm,hcs,htake⟩
  ·by_cases hm:t.size=0
   ·exact Or.inl (by rw[hn.2 ⟨rfl,hm⟩])
   ·have:=run_append_nil_string (P:=Tryz.prog) w 22 9 ty 5 i0 (.int .u8 0) Tryz.underlying22 Tryz.underlying9 hi hz0 t (by omega) (by omega) (by rw[hz2];simp;omega)
    rw[hr] at this;injection this with e1 e2
    right;rw[e1];rfl
  ·by_cases hroom:xs.length+t.size<=cap
   ·have:=Lib.run_append_room_string (P:=Tryz.prog) w 22 9 ty 5 i0 Tryz.underlying22 Tryz.underlying9 hi hz1 g xs.length cap cur hgc t hroom (by omega)
    rw[hr] at this;injection this with e1 e2
    left;rw[e1];rfl
   ·have holds:∀ j u,(U8 xs)[j]?=some u->w.cell? ((⟨g,0,none⟩:Addr).add j)=some u:=World.ownsRow.cells (g:=g) hown rfl
    have:=Lib.run_append_grow_string (P:=Tryz.prog) w 22 9 ty 5 i0 (.int .u8 0) Tryz.underlying22 Tryz.underlying9 hi hz0 ⟨g,0,none⟩ xs.length cap (U8 xs) (by rw[hz1];simp[U8]) holds t (by omega) (by omega) (by rw[hz2];exact growslice_fits (by omega) (by omega));rw[hr] at this;injection this with e1 e2
    right;rw[e1];rfl
theorem wpList_append_str_nigh {w0 w:World} {ops:Array Oper} {rest:List Oper} {o:Oper} {a:Act} {Q:Exit->Act->World->Prop} (hgd:o.guard=none) (s x:Operand)
  (ho:o.op=.call { callee:=.builtin .append,args:=#[s,x],argTypes:=#[22,9] })
  (base:Nat) (v0 v:Value) (t:ByteArray) (xs:List Int) (hs:a.eval s=v) (hown:Own w base v xs) (hx:a.eval x=.string t)
  (hn:Nigh w0 v0 w v) (hbase:base<=w.heap.size) (hlen:xs.length+t.size<=1073741824)
  (h:∀ v' w',Own w' base v' (xs++txt t)->Nigh w0 v0 w' v'->base<=w'.heap.size->wpList Tryz.prog ops Q rest (a.put o.dst v') w') :
  wpList Tryz.prog ops Q (o :: rest) a w:=by
 refine wpList_plain hgd fun K hK=>?_;obtain⟨v',w',hr,h2,h3,h4⟩:=run_append_str_at o.type base v t xs hown hbase hlen;unfold Oper.wp execOp;simp only[ho,resolve,invoke,builtin,Sem.run_bind,Sem.run_pure,Result.andThen_ok,List.map_toArray,List.map_cons,List.map_nil,hs,hx,hr];exact hK _ _ (h v' w' h2 (hn.step h3 h4) (Nat.le_trans hbase h3.size))
theorem Nigh.cell {w0 w:World} {v0 v:Value} (h:Nigh w0 v0 w v) {p:Addr} (hb:p.block<w0.heap.size) (hne:v0.ownBlock≠some p.block):w.cell? p=w0.cell? p :=
 World.cell?_of_block (h.block hb hne)
theorem Nigh.size {w0 w:World} {v0 v:Value} (h:Nigh w0 v0 w v):w0.heap.size<=w.heap.size:=h.1.size
theorem Nigh.bs {w0 w:World} {v0 v u:Value} {zs:List Int} (h:Nigh w0 v0 w v) (hu:Bs w0 u zs) (hz:zs≠[]) (hne:∀ k,u.ownBlock=some k->v0.ownBlock≠some k):Bs w u zs :=
 hu.kept fun k hk=>h.block (hu.lt hz k hk) (hne k hk)
theorem oper_append_nigh {w0 w:World} {o:Oper} {a:Act} {K:Act->World->Prop} {Q:Exit->Act->World->Prop} (s x:Operand)
  (ho:o.op=.call { callee:=.builtin .append,args:=#[s,x],argTypes:=#[22,22] })
  (base:Nat) (v0 v u:Value) (xs zs:List Int) (hs:a.eval s=v) (hown:Own w base v xs) (hx:a.eval x=u) (hu:Bs w u zs) (hz:0<zs.length)
  (hn:Nigh w0 v0 w v) (hbase:base<=w.heap.size) (hlen:xs.length+zs.length<=1073741824)
  (h:∀ v' w',Own w' base v' (xs++zs)->Nigh w0 v0 w' v'->Nigh w v w' v'->base<=w'.heap.size->K (a.put o.dst v') w'):o.wp Tryz.prog a w K Q:=by
 obtain⟨i0,hi,hz0,hz1,hz2⟩:=info_parts info5;obtain⟨b,off,cap,rfl,hl,hm⟩:=hu.addr hz;obtain⟨v',w',hr,h2,h3,h4,h5⟩:=run_append_own_at (P:=Tryz.prog) w base 22 o.type 5 i0 (.int .u8 0) 1 1 Tryz.underlying22 hi hz0 hz1 hz2 rfl (by decide) v xs.length (U8 xs) hown _ zs.length cap (U8 zs)
  (by simp[U8]) (by
   intro j q hq;have hj:j<zs.length:=(by have:=(List.getElem?_eq_some_iff.1 hq).1;simpa [U8] using this);rw[Addr.add_lit,hu.cellAt hj];rw[U8_get zs j hj] at hq;exact hq) (ints_oneCell .u8 zs) (by unfold maxLen;omega) (by omega) hbase
 unfold Oper.wp execOp;simp only[ho,resolve,invoke,builtin,Sem.run_bind,Sem.run_pure,Result.andThen_ok,List.map_toArray,List.map_cons,List.map_nil,hs,hx,hr];refine h v' w' ?_ (hn.step h3 h5) ((Nigh.refl w v).step h3 h5) (Nat.le_trans hbase h3.size);unfold Own;rw[U8_append,List.length_append];exact h2
end Go.Proofs.YtkbijjkgfojchaaGreat
namespace Go.Proofs.YtkbijjkgfojchaaGreat
variable {P:Program} {ops:Array Oper} {Q:Exit->Act->World->Prop} {md:Region.Mode} {S:World->Prop}
theorem takeHD {i:Nat} {oi:Oper} {v:Value} {fuel:Nat} {listed:Array Bool} {a:Act} {w:World} (d:Option Tmp) (hi:ops[i]?=some oi) (hd:oi.dst=d)
  (hs:Region.noSelect ops=true) (hf:Region.free md ops listed i=true) (hr:(Region.ready md ops listed).contains i=true)
  (hQ:∀ c a w,Q (.panic c) (a.put oi.dst v) w->Q (.panic c) a w) (hy:YieldsIf P ops S oi v a) (hS:S w)
  (h:wpAnyH P md ops Q S fuel (listed.setIfInBounds i true) (a.put d v) w):wpAnyH P md ops Q S (fuel+1) listed a w:=by
 subst hd;exact wpAnyH_take hi hs hf hr hQ hy hS h
end Go.Proofs.YtkbijjkgfojchaaGreat
namespace Go.Proofs.YtkbijjkgfojchaaGreat
open Go.RowKit
set_option maxRecDepth 8000
def AppC (t:Tr):Prop:=t.okT=true->t.cnt<=60->∀ (base:Nat) (B:Nat->Prop) (b lv:Value) (xs:List Int) (w:World),Own w base b xs->base<=w.heap.size->xs.length+t.tl.length<=100000->Rl w B t.l lv ->
 (∀ k,B k->k<w.heap.size/\b.ownBlock≠some k) ->
 Calls Tryz.prog 263 #[b,rx t.k t.s lv] w fun e w'=>∃ b',e=.returned b'/\Own w' base b' (xs++t.tl)/\Nigh w b w' b'
theorem Nigh.rl {w0 w:World} {v0 v:Value} {B:Nat->Prop} {l:List Tr} {u:Value} (h:Nigh w0 v0 w v) (hr:Rl w0 B l u) (hB:∀ k,B k->k<w0.heap.size/\v0.ownBlock≠some k) :
  Rl w B l u/\∀ k,B k->k<w.heap.size/\v.ownBlock≠some k:=by
 refine⟨hr.kept fun b hb _=>h.block (hB b hb).1 (hB b hb).2,fun k hk=>?_⟩;obtain⟨h1,h2⟩:=hB k hk;refine⟨Nat.lt_of_lt_of_le h1 h.size,fun e=>?_⟩;rcases h.2 with hv | hv
 ·rw[hv] at e;exact h2 e
 ·have:=hv k e;omega
theorem Nigh.keep {w0 w:World} {v0 v:Value} (h:Nigh w0 v0 w v) {c:Nat} (hne:v0.ownBlock≠some c) (hc:c<w0.heap.size):v.ownBlock≠some c:=by
 intro e;rcases h.2 with hv | hv
 ·rw[hv] at e;exact hne e
 ·have:=hv c e;omega
theorem within_of (t:Tr) (ih:AppC t) (hok:t.okT=true) (hcn:t.cnt<=60) (br:Bool) (base:Nat) (B:Nat->Prop) (b lv:Value) (xs:List Int) (w:World) (ho:Own w base b xs) (hbase0:base<=w.heap.size)
  (hlen0:xs.length+(t.tl.length+2)<=100000\/br=false/\xs.length+t.tl.length<=100000) (h:Rl w B t.l lv) (hB:∀ k,B k->k<w.heap.size/\b.ownBlock≠some k) :
  Calls Tryz.prog 269 #[b,rx t.k t.s lv,.bool br] w fun e w'=>∃ b',e=.returned b'/\Own w' base b' (xs++(if br=true then 40 :: (t.tl++[41]) else t.tl))/\Nigh w b w' b':=by
 obtain⟨ao,cap,rfl,hl1,hl2,hl3⟩:=h.len;have N0:=(Nigh.refl w b).alloc (.cells #[.int .i64 t.k,.string t.s,.slice ao t.l.length cap] 258);have O0:=ho.alloc (.cells #[.int .i64 t.k,.string t.s,.slice ao t.l.length cap] 258);obtain⟨R0,B1⟩:=N0.rl h hB;have hbw:base<=(w.alloc (.cells #[.int .i64 t.k,.string t.s,.slice ao t.l.length cap] 258)).heap.size:=Nat.le_trans hbase0 N0.size;have hne:b.ownBlock≠some w.heap.size:=fun e=>by have:=(ho.lt _ e).2;omega
 cases br with
 | false =>
  have HC:=Hid.mk (ih hok hcn base B b _ xs _ O0 hbw (by omega) R0 B1);have HN0:=Hid.mk N0;obtain⟨T,hT⟩:∃ T,t.tl=T:=⟨_,rfl⟩;obtain⟨k,hk⟩:∃ k,t.k=k:=⟨_,rfl⟩;obtain⟨s,hsn⟩:∃ s,t.s=s:=⟨_,rfl⟩;rw[hk,hsn,hT] at HC;rw[hk,hsn] at HN0;rw[hk,hsn,hT];clear N0 O0 R0 B1 hbw hB h ih hok hcn ho hlen0 hk hsn hT hl1 hl2 hl3;go_enter Tryz.func269,Tryz.ntmps269
  go_wp2_with fail
  refine HC.out.mono ?_;rintro e w1 ⟨b1,rfl,hown,hn⟩;have HN:=Hid.mk (HN0.out.trans hn);have HO:=Hid.mk hown;clear HC hn hown HN0;go_wp2;go_ret;exact⟨_,rfl,HO.out,HN.out⟩
 | true =>
  have hlen:=Hid.mk (show xs.length+(t.tl.length+2)<=100000 by rcases hlen0 with h | h;exact h;cases h.1);have HC:Hid (∀ (W:World) (v:Value),Own W base v (xs++[40])->Nigh (w.alloc (.cells #[.int .i64 t.k,.string t.s,.slice ao t.l.length cap] 258)) b W v ->
    Calls Tryz.prog 263 #[v,rx t.k t.s (.slice ao t.l.length cap)] W fun e w'=>∃ b',e=.returned b'/\Own w' base b' (xs++[40]++t.tl)/\Nigh W v w' b'):=by
   intro W v hW hN;obtain⟨R1,B2⟩:=hN.rl R0 B1;exact ih hok hcn base B v _ (xs++[40]) W hW (Nat.le_trans hbw hN.size) (by have:=hlen.out;simp;omega) R1 B2
  have SN:Hid (∀ (W:World) (v:Value),Nigh (w.alloc (.cells #[.int .i64 t.k,.string t.s,.slice ao t.l.length cap] 258)) b W v ->
    ∀ o,W.cell? ⟨w.heap.size,o,none⟩=(w.alloc (.cells #[.int .i64 t.k,.string t.s,.slice ao t.l.length cap] 258)).cell? ⟨w.heap.size,o,none⟩):=by
   intro W v hN o;exact hN.cell (p:=⟨w.heap.size,o,none⟩) (by simp) hne
  have HE:Hid (∀ (W:World) (v:Value),Own W base v (xs++[40]++t.tl++[41])->Own W base v (xs++(40 :: (t.tl++[41])))):=by
   intro W v h;simpa using h
  have HN:Hid (∀ (W:World) (v:Value),Nigh (w.alloc (.cells #[.int .i64 t.k,.string t.s,.slice ao t.l.length cap] 258)) b W v->Nigh w b W v):=fun W v h=>N0.trans h;obtain⟨T,hT⟩:∃ T,t.tl=T:=⟨_,rfl⟩;obtain⟨k,hk⟩:∃ k,t.k=k:=⟨_,rfl⟩;obtain⟨s,hsn⟩:∃ s,t.s=s:=⟨_,rfl⟩;have hbase:=Hid.mk hbw;rw[hk,hsn] at hbase SN HN O0;rw[hk,hsn,hT] at HC;rw[hT] at hlen HE;rw[hk,hsn,hT];clear N0 R0 B1 hB h ih hok hcn ho hlen0 hbw hk hsn hT hl1 hl2 hl3;have ho1:Own (w.alloc (.cells #[.int .i64 k,.string s,.slice ao t.l.length cap] 258)).drew base b xs:=World.ownsRow.drew O0;have hn1:Nigh (w.alloc (.cells #[.int .i64 k,.string s,.slice ao t.l.length cap] 258)) b (w.alloc (.cells #[.int .i64 k,.string s,.slice ao t.l.length cap] 258)).drew b:=(Nigh.refl _ b).grow (Below.drewSelf _ _ 1);go_enter Tryz.func269,Tryz.ntmps269
  go_wp2_with fail
  refine wp_region_held_drew (S:=fun W=>∀ o,W.cell? ⟨w.heap.size,o,none⟩=(w.alloc (.cells #[.int .i64 k,.string s,.slice ao t.l.length cap] 258)).cell? ⟨w.heap.size,o,none⟩) (by kernel_rfl) (SN.out _ _ hn1) (fun _=>?_);refine takeHD (i:=0) (v:=b) (some 12) rfl rfl (by kernel_rfl) (by kernel_rfl) (by kernel_rfl) (fun _ _ _ h=>h) (Or.inl ⟨by kernel_rfl,fun w' _=>by kernel_rfl⟩) (SN.out _ _ hn1) ?_;simp only[Act.put,List.setIfInBounds_toArray];refine takeHD (i:=3) (v:=rx k s (.slice ao t.l.length cap)) (some 15) rfl rfl (by kernel_rfl) (by kernel_rfl) (by kernel_rfl) (fun _ _ _ h=>h) (Or.inl ⟨by kernel_rfl,fun w' hx=>?_⟩) (SN.out _ _ hn1) ?_
  ·go_simp
  simp only[Act.put,List.setIfInBounds_toArray];generalize hW:((w.alloc (.cells #[.int .i64 k,.string s,.slice ao t.l.length cap] 258))).drew=W0 at *;refine wpAnyH_ready (rs:=[1,5]) (by kernel_rfl) (by simp) ?_;refine AllReadyH.cons rfl (fun K hK=>?_) (AllReadyH.cons rfl (fun K hK=>?_) AllReadyH.nil)
  ·rw[if_pos (by kernel_rfl)]
   have hb4:Below W0.heap.size W0 (W0.alloc (.cells #[.int .u8 40] 5)):=(Below.refl _ _).alloc (Nat.le_refl _) _;have ho2:=ho1.alloc (.cells #[.int .u8 40] 5);have hn3:=hn1.alloc (.cells #[.int .u8 40] 5);have hs5:=Bs.one W0 40 (by omega) (by omega);have hl6:Hid (base<=(W0.alloc (.cells #[.int .u8 40] 5)).heap.size):=(by show _<=_;simp;have:=hn1.size;have:=hbase.out;omega);go_wp2_with fail
   refine hK.out _ _ (SN.out _ _ hn3) (fun _=>?_);clear hK K;generalize hW:(W0.alloc (.cells #[.int .u8 40] 5))=W1 at *;clear hW hb4 ho1 hn1;refine wpAnyH_ready (rs:=[2,5]) (by kernel_rfl) (by simp) ?_;refine AllReadyH.cons rfl (fun K hK=>?_) (AllReadyH.cons rfl (fun K hK=>?_) AllReadyH.nil)
   ·rw[if_pos (by kernel_rfl)]
    refine oper_append_nigh _ _ rfl base b b _ xs [40] rfl ho2 rfl hs5 (by simp) hn3 (by have:=hn3.size;have:=hbase.out;omega) (by simp;have:=hlen.out;omega) ?_;intro v8 W9 ho10 hn11 hm12 hz13;refine hK.out _ _ (SN.out _ _ hn11) (fun _=>?_);clear hK K;simp only[Act.put,List.setIfInBounds_toArray];clear ho2 hn3 hm12;refine wpAnyH_ready (rs:=[4,5]) (by kernel_rfl) (by simp) ?_;refine AllReadyH.cons rfl (fun K hK=>?_) (AllReadyH.cons rfl (fun K hK=>?_) AllReadyH.nil)
    ·rw[if_pos (by kernel_rfl)]
     go_wp2_with fail
     refine(HC.out _ _ ho10 hn11).mono ?_;rintro e W15 ⟨v14,rfl,ho16,hm18⟩;have hn17:=hn11.trans hm18;refine hK.out _ _ (SN.out _ _ hn17) (fun _=>?_);clear hK K;clear ho10 hn11 hm18;refine wpAnyH_ready (rs:=[5]) (by kernel_rfl) (by simp) ?_;refine AllReadyH.cons rfl (fun K hK=>?_) AllReadyH.nil;rw[if_pos (by kernel_rfl)];have hb22:Below W15.heap.size W15 (W15.alloc (.cells #[.int .u8 41] 5)):=(Below.refl _ _).alloc (Nat.le_refl _) _;have ho20:=ho16.alloc (.cells #[.int .u8 41] 5);have hn21:=hn17.alloc (.cells #[.int .u8 41] 5);have hs23:=Bs.one W15 41 (by omega) (by omega);have hl24:Hid (base<=(W15.alloc (.cells #[.int .u8 41] 5)).heap.size):=(by show _<=_;simp;have:=hn17.size;have:=hbase.out;omega);have hx25:v14.ownBlock≠some W15.heap.size:=fun e=>by have:=(ho16.lt _ e).2;omega
     go_wp2_with fail
     refine hK.out _ _ (SN.out _ _ hn21) (fun _=>?_);clear hK K;generalize hW:(W15.alloc (.cells #[.int .u8 41] 5))=W19 at *;clear hW hb22 ho16 hn17;refine wpAnyH_ready (rs:=[6]) (by kernel_rfl) (by simp) ?_;refine AllReadyH.cons rfl (fun K hK=>?_) AllReadyH.nil;rw[if_pos (by kernel_rfl)];refine oper_append_nigh _ _ rfl base b v14 _ (xs++[40]++T) [41] rfl ho20 rfl hs23 (by simp) hn21 (by have:=hn21.size;have:=hbase.out;omega) (by simp;have:=hlen.out;omega) ?_;intro v27 W28 ho29 hn30 hm31 hz32;refine hK.out _ _ (SN.out _ _ hn30) (fun _=>?_);clear hK K;simp only[Act.put,List.setIfInBounds_toArray];clear ho20 hn21 hm31;refine wpAnyH_ready (rs:=[7]) (by kernel_rfl) (by simp) ?_;refine AllReadyH.cons rfl (fun K hK=>?_) AllReadyH.nil;rw[if_pos (by kernel_rfl)];go_wp2_with fail
     refine hK.out _ _ (SN.out _ _ hn30) (fun _=>?_);clear hK K;refine wpAnyH_done (by kernel_rfl) ?_ _;go_wp2;go_ret;exact⟨_,rfl,HE.out _ _ ho29,HN.out _ _ hn30⟩
    ·rw[if_pos (by kernel_rfl)]
     have hb36:Below W9.heap.size W9 (W9.alloc (.cells #[.int .u8 41] 5)):=(Below.refl _ _).alloc (Nat.le_refl _) _;have ho34:=ho10.alloc (.cells #[.int .u8 41] 5);have hn35:=hn11.alloc (.cells #[.int .u8 41] 5);have hs37:=Bs.one W9 41 (by omega) (by omega);have hl38:Hid (base<=(W9.alloc (.cells #[.int .u8 41] 5)).heap.size):=(by show _<=_;simp;have:=hn11.size;have:=hbase.out;omega);have hx39:v8.ownBlock≠some W9.heap.size:=fun e=>by have:=(ho10.lt _ e).2;omega
     go_wp2_with fail
     refine hK.out _ _ (SN.out _ _ hn35) (fun _=>?_);clear hK K;generalize hW:(W9.alloc (.cells #[.int .u8 41] 5))=W33 at *;clear hW hb36 ho10 hn11;refine wpAnyH_ready (rs:=[4]) (by kernel_rfl) (by simp) ?_;refine AllReadyH.cons rfl (fun K hK=>?_) AllReadyH.nil;rw[if_pos (by kernel_rfl)];go_wp2_with fail
     refine(HC.out _ _ ho34 hn35).mono ?_;rintro e W42 ⟨v41,rfl,ho43,hm45⟩;have hn44:=hn35.trans hm45;refine hK.out _ _ (SN.out _ _ hn44) (fun _=>?_);clear hK K;have hs46:=hm45.bs hs37 (by simp) (by intro k hk;simp[Value.ownBlock] at hk;subst hk;exact hx39);have hx47:=Nigh.keep hm45 hx39 (by have:=hs37.lt (by simp) _ rfl;exact this);clear ho34 hn35 hm45;refine wpAnyH_ready (rs:=[6]) (by kernel_rfl) (by simp) ?_;refine AllReadyH.cons rfl (fun K hK=>?_) AllReadyH.nil;rw[if_pos (by kernel_rfl)];refine oper_append_nigh _ _ rfl base b v41 _ (xs++[40]++T) [41] rfl ho43 rfl hs46 (by simp) hn44 (by have:=hn44.size;have:=hbase.out;omega) (by simp;have:=hlen.out;omega) ?_;intro v48 W49 ho50 hn51 hm52 hz53;refine hK.out _ _ (SN.out _ _ hn51) (fun _=>?_);clear hK K;simp only[Act.put,List.setIfInBounds_toArray];clear ho43 hn44 hm52;refine wpAnyH_ready (rs:=[7]) (by kernel_rfl) (by simp) ?_;refine AllReadyH.cons rfl (fun K hK=>?_) AllReadyH.nil;rw[if_pos (by kernel_rfl)];go_wp2_with fail
     refine hK.out _ _ (SN.out _ _ hn51) (fun _=>?_);clear hK K;refine wpAnyH_done (by kernel_rfl) ?_ _;go_wp2;go_ret;exact⟨_,rfl,HE.out _ _ ho50,HN.out _ _ hn51⟩
   ·rw[if_pos (by kernel_rfl)]
    have hb57:Below W1.heap.size W1 (W1.alloc (.cells #[.int .u8 41] 5)):=(Below.refl _ _).alloc (Nat.le_refl _) _;have ho55:=ho2.alloc (.cells #[.int .u8 41] 5);have hn56:=hn3.alloc (.cells #[.int .u8 41] 5);have hs58:=Bs.one W1 41 (by omega) (by omega);have hl59:Hid (base<=(W1.alloc (.cells #[.int .u8 41] 5)).heap.size):=(by show _<=_;simp;have:=hn3.size;have:=hbase.out;omega);have hs60:=hs5.grow hb57;have hx61:b.ownBlock≠some W1.heap.size:=fun e=>by have:=(ho2.lt _ e).2;omega
    go_wp2_with fail
    refine hK.out _ _ (SN.out _ _ hn56) (fun _=>?_);clear hK K;generalize hW:(W1.alloc (.cells #[.int .u8 41] 5))=W54 at *;clear hW hb57 ho2 hn3;refine wpAnyH_ready (rs:=[2]) (by kernel_rfl) (by simp) ?_;refine AllReadyH.cons rfl (fun K hK=>?_) AllReadyH.nil;rw[if_pos (by kernel_rfl)];refine oper_append_nigh _ _ rfl base b b _ xs [40] rfl ho55 rfl hs60 (by simp) hn56 (by have:=hn56.size;have:=hbase.out;omega) (by simp;have:=hlen.out;omega) ?_;intro v63 W64 ho65 hn66 hm67 hz68;refine hK.out _ _ (SN.out _ _ hn66) (fun _=>?_);clear hK K;simp only[Act.put,List.setIfInBounds_toArray];have hs69:=hm67.bs hs58 (by simp) (by intro k hk;simp[Value.ownBlock] at hk;subst hk;exact hx61);have hx70:=Nigh.keep hm67 hx61 (by have:=hs58.lt (by simp) _ rfl;exact this);clear ho55 hn56 hm67;refine wpAnyH_ready (rs:=[4]) (by kernel_rfl) (by simp) ?_;refine AllReadyH.cons rfl (fun K hK=>?_) AllReadyH.nil;rw[if_pos (by kernel_rfl)];go_wp2_with fail
    refine(HC.out _ _ ho65 hn66).mono ?_;rintro e W72 ⟨v71,rfl,ho73,hm75⟩;have hn74:=hn66.trans hm75;refine hK.out _ _ (SN.out _ _ hn74) (fun _=>?_);clear hK K;have hs76:=hm75.bs hs69 (by simp) (by intro k hk;simp[Value.ownBlock] at hk;subst hk;exact hx70);have hx77:=Nigh.keep hm75 hx70 (by have:=hs69.lt (by simp) _ rfl;exact this);clear ho65 hn66 hm75;refine wpAnyH_ready (rs:=[6]) (by kernel_rfl) (by simp) ?_;refine AllReadyH.cons rfl (fun K hK=>?_) AllReadyH.nil;rw[if_pos (by kernel_rfl)];refine oper_append_nigh _ _ rfl base b v71 _ (xs++[40]++T) [41] rfl ho73 rfl hs76 (by simp) hn74 (by have:=hn74.size;have:=hbase.out;omega) (by simp;have:=hlen.out;omega) ?_;intro v78 W79 ho80 hn81 hm82 hz83;refine hK.out _ _ (SN.out _ _ hn81) (fun _=>?_);clear hK K;simp only[Act.put,List.setIfInBounds_toArray];clear ho73 hn74 hm82;refine wpAnyH_ready (rs:=[7]) (by kernel_rfl) (by simp) ?_;refine AllReadyH.cons rfl (fun K hK=>?_) AllReadyH.nil;rw[if_pos (by kernel_rfl)];go_wp2_with fail
    refine hK.out _ _ (SN.out _ _ hn81) (fun _=>?_);clear hK K;refine wpAnyH_done (by kernel_rfl) ?_ _;go_wp2;go_ret;exact⟨_,rfl,HE.out _ _ ho80,HN.out _ _ hn81⟩
  ·rw[if_pos (by kernel_rfl)]
   have hb87:Below W0.heap.size W0 (W0.alloc (.cells #[.int .u8 41] 5)):=(Below.refl _ _).alloc (Nat.le_refl _) _;have ho85:=ho1.alloc (.cells #[.int .u8 41] 5);have hn86:=hn1.alloc (.cells #[.int .u8 41] 5);have hs88:=Bs.one W0 41 (by omega) (by omega);have hl89:Hid (base<=(W0.alloc (.cells #[.int .u8 41] 5)).heap.size):=(by show _<=_;simp;have:=hn1.size;have:=hbase.out;omega);have hx90:b.ownBlock≠some W0.heap.size:=fun e=>by have:=(ho1.lt _ e).2;omega
   go_wp2_with fail
   refine hK.out _ _ (SN.out _ _ hn86) (fun _=>?_);clear hK K;generalize hW:(W0.alloc (.cells #[.int .u8 41] 5))=W84 at *;clear hW hb87 ho1 hn1;refine wpAnyH_ready (rs:=[1]) (by kernel_rfl) (by simp) ?_;refine AllReadyH.cons rfl (fun K hK=>?_) AllReadyH.nil;rw[if_pos (by kernel_rfl)];have hb95:Below W84.heap.size W84 (W84.alloc (.cells #[.int .u8 40] 5)):=(Below.refl _ _).alloc (Nat.le_refl _) _;have ho93:=ho85.alloc (.cells #[.int .u8 40] 5);have hn94:=hn86.alloc (.cells #[.int .u8 40] 5);have hs96:=Bs.one W84 40 (by omega) (by omega);have hl97:Hid (base<=(W84.alloc (.cells #[.int .u8 40] 5)).heap.size):=(by show _<=_;simp;have:=hn86.size;have:=hbase.out;omega);have hs98:=hs88.grow hb95;go_wp2_with fail
   refine hK.out _ _ (SN.out _ _ hn94) (fun _=>?_);clear hK K;generalize hW:(W84.alloc (.cells #[.int .u8 40] 5))=W92 at *;clear hW hb95 ho85 hn86;refine wpAnyH_ready (rs:=[2]) (by kernel_rfl) (by simp) ?_;refine AllReadyH.cons rfl (fun K hK=>?_) AllReadyH.nil;rw[if_pos (by kernel_rfl)];refine oper_append_nigh _ _ rfl base b b _ xs [40] rfl ho93 rfl hs96 (by simp) hn94 (by have:=hn94.size;have:=hbase.out;omega) (by simp;have:=hlen.out;omega) ?_;intro v100 W101 ho102 hn103 hm104 hz105;refine hK.out _ _ (SN.out _ _ hn103) (fun _=>?_);clear hK K;simp only[Act.put,List.setIfInBounds_toArray];have hs106:=hm104.bs hs98 (by simp) (by intro k hk;simp[Value.ownBlock] at hk;subst hk;exact hx90);have hx107:=Nigh.keep hm104 hx90 (by have:=hs98.lt (by simp) _ rfl;exact this);clear ho93 hn94 hm104;refine wpAnyH_ready (rs:=[4]) (by kernel_rfl) (by simp) ?_;refine AllReadyH.cons rfl (fun K hK=>?_) AllReadyH.nil;rw[if_pos (by kernel_rfl)];go_wp2_with fail
   refine(HC.out _ _ ho102 hn103).mono ?_;rintro e W109 ⟨v108,rfl,ho110,hm112⟩;have hn111:=hn103.trans hm112;refine hK.out _ _ (SN.out _ _ hn111) (fun _=>?_);clear hK K;have hs113:=hm112.bs hs106 (by simp) (by intro k hk;simp[Value.ownBlock] at hk;subst hk;exact hx107);have hx114:=Nigh.keep hm112 hx107 (by have:=hs106.lt (by simp) _ rfl;exact this);clear ho102 hn103 hm112;refine wpAnyH_ready (rs:=[6]) (by kernel_rfl) (by simp) ?_;refine AllReadyH.cons rfl (fun K hK=>?_) AllReadyH.nil;rw[if_pos (by kernel_rfl)];refine oper_append_nigh _ _ rfl base b v108 _ (xs++[40]++T) [41] rfl ho110 rfl hs113 (by simp) hn111 (by have:=hn111.size;have:=hbase.out;omega) (by simp;have:=hlen.out;omega) ?_;intro v115 W116 ho117 hn118 hm119 hz120;refine hK.out _ _ (SN.out _ _ hn118) (fun _=>?_);clear hK K;simp only[Act.put,List.setIfInBounds_toArray];clear ho110 hn111 hm119;refine wpAnyH_ready (rs:=[7]) (by kernel_rfl) (by simp) ?_;refine AllReadyH.cons rfl (fun K hK=>?_) AllReadyH.nil;rw[if_pos (by kernel_rfl)];go_wp2_with fail
   refine hK.out _ _ (SN.out _ _ hn118) (fun _=>?_);clear hK K;refine wpAnyH_done (by kernel_rfl) ?_ _;go_wp2;go_ret;exact⟨_,rfl,HE.out _ _ ho117,HN.out _ _ hn118⟩
end Go.Proofs.YtkbijjkgfojchaaGreat
