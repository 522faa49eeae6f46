/- Plain facts on numbers: wrapping to 32 bits,masks,groups of seven bits. Nothing of the program. .. -/
import Derived.Laws.BitsLemmas
import Derived.Laws.Bits128
import Derived.Test.YtkbijjkgfojchaaGreatRows
import Derived.WalkKit
import Derived.WalkLawsBesides
import Derived.ProofKit
import Derived.OpenShut
import Derived.Deep.QuietTactic
import Derived.BigQuiet
import Derived.Deep.Slices
import Derived.Deep.Strs
import Derived.Laws.AppendOwnNone
import Derived.Lib.AppendStr
import Derived.Laws.IdiomStrings
import Derived.Lib.OthersKept
namespace Go.Proofs.YtkbijjkgfojchaaGreat.Ma
def wr (n:Int):Int:=(n+2147483648) % 4294967296-2147483648
def uG:Nat->Int->List Int
 | 0,_=>[]
 | f+1,n=>if 127<n then (n % 128+128) :: uG f (n / 128) else [n]
def UG (n:Int):List Int:=uG 5 n
def clamp (n:Int):Int:=if n<0 then 0 else if 2147483647<n then 2147483647 else n
def sG:Nat->Int->List Int
 | 0,_=>[]
 | f+1,n=>if n < -64\/63<n then (n % 128+128) :: sG f (n / 128) else [n % 128]
def SG (n:Int):List Int:=sG 5 n
end Go.Proofs.YtkbijjkgfojchaaGreat.Ma
namespace Go.Proofs.YtkbijjkgfojchaaGreat
open Go.RowKit
theorem Hid.mk {p:Prop} (h:p):Hid p:=h
def byteList (zs:List Int):Prop:=∀ z∈zs,0<=z/\z<=255
def Bs (w:World) (v:Value) (zs:List Int):Prop :=
 byteList zs/\∃ ao cap,v=.slice ao zs.length cap/\zs.length<=cap/\cap<=maxLen/\(ao=none->cap=0) /\
  (zs≠[]->∃ b off,ao=some ⟨b,off,none⟩/\∀ i,i<zs.length->w.cell? ⟨b,off+i,none⟩=some (.int .u8 (zs.getD i 0)))
def U8 (zs:List Int):List Value:=zs.map (Value.int .u8)
theorem U8_append (xs ys:List Int):U8 (xs++ys)=U8 xs++U8 ys:=by simp[U8]
theorem U8_get (zs:List Int) (i:Nat) (h:i<zs.length):(U8 zs)[i]?=some (.int .u8 (zs.getD i 0)):=by
 simp[U8,List.getD,h]
theorem byteList.take {zs:List Int} (h:byteList zs) (n:Nat):byteList (zs.take n):=fun z hz=>h z (List.mem_of_mem_take hz)
theorem byteList.drop {zs:List Int} (h:byteList zs) (n:Nat):byteList (zs.drop n):=fun z hz=>h z (List.mem_of_mem_drop hz)
theorem byteList.append {xs ys:List Int} (h:byteList xs) (k:byteList ys):byteList (xs++ys):=by
 intro z hz;rcases List.mem_append.1 hz with h1 | h1
 ·exact h z h1
 ·exact k z h1
theorem byteList.getD {zs:List Int} (h:byteList zs) (i:Nat):0<=zs.getD i 0/\zs.getD i 0<=255:=by
 by_cases hi:i<zs.length
 ·have:zs.getD i 0=zs[i]:=by simp[List.getD,hi]
  rw[this];exact h _ (List.getElem_mem hi)
 ·have:zs.getD i 0=0:=by simp[List.getD,hi]
  omega
theorem Bs.of_owns {w:World} {base:Nat} {v:Value} {n:Nat} {zs:List Int} (h:w.ownsRow base 5 1 v n (U8 zs)) (hb:byteList zs):Bs w v zs:=by
 have hn:zs.length=n:=by have:=h.1;simpa [U8] using this
 subst hn;rcases h.2 with⟨rfl,h0⟩ | ⟨g,cap,cur,rfl,hb',hg,hnc,hcm,hcs,htake⟩
 ·exact⟨hb,none,0,by rw[h0],by omega,by simp,fun _=>rfl,fun hne=>absurd (List.eq_nil_of_length_eq_zero h0) hne⟩
 ·refine⟨hb,_,_,rfl,hnc,hcm,fun h=>by simp at h,fun _=>⟨g,0,rfl,fun i hi=>?_⟩⟩
  have:=World.ownsRow.cellAt h i (by simpa using hi);rw[Nat.zero_add,this,U8_get zs i hi]
def Own (w:World) (base:Nat) (v:Value) (xs:List Int):Prop:=w.ownsRow base 5 1 v xs.length (U8 xs)
theorem Own.bs {w:World} {base:Nat} {v:Value} {xs:List Int} (h:Own w base v xs) (hb:byteList xs):Bs w v xs:=Bs.of_owns h hb
theorem Own.alloc {w:World} {base:Nat} {v:Value} {xs:List Int} (h:Own w base v xs) (o:Obj):Own (w.alloc o) base v xs:=World.ownsRow.alloc h o
theorem Bs.kept {w w':World} {v:Value} {zs:List Int} (h:Bs w v zs) (hk:∀ k,v.ownBlock=some k->w'.heap[k]?=w.heap[k]?):Bs w' v zs:=by
 obtain⟨hb,ao,cap,rfl,hl,hm,hn,hc⟩:=h;refine⟨hb,ao,cap,rfl,hl,hm,hn,fun hne=>?_⟩;obtain⟨b,off,rfl,hcell⟩:=hc hne;refine⟨b,off,rfl,fun i hi=>?_⟩;rw[World.cell?_of_block (w:=w) (hk b rfl)];exact hcell i hi
theorem Bs.below {w w':World} {v:Value} {zs:List Int} {B:Nat} (h:Bs w v zs) (hk:Below B w w') (hlt:∀ k,v.ownBlock=some k->k<B):Bs w' v zs :=
 h.kept fun k hv=>hk.block k (hlt k hv)
theorem Bs.lt {w:World} {v:Value} {zs:List Int} (h:Bs w v zs) (hne:zs≠[]):∀ k,v.ownBlock=some k->k<w.heap.size:=by
 obtain⟨hb,ao,cap,rfl,hl,hm,hn,hc⟩:=h;obtain⟨b,off,rfl,hcell⟩:=hc hne;intro k hk;simp[Value.ownBlock] at hk;subst hk;exact World.block_lt_of_cell? w _ (hcell 0 (by cases zs <;> simp_all))
theorem Bs.grow {w w':World} {v:Value} {zs:List Int} (h:Bs w v zs) (hk:Below w.heap.size w w'):Bs w' v zs:=by
 by_cases hne:zs=[]
 ·obtain⟨hb,ao,cap,rfl,hl,hm,hn,hc⟩:=h
  exact⟨hb,ao,cap,rfl,hl,hm,hn,fun h=>absurd hne h⟩
 ·exact h.below hk (h.lt hne)
theorem Own.lt {w:World} {base:Nat} {v:Value} {xs:List Int} (h:Own w base v xs):∀ k,v.ownBlock=some k->base<=k/\k<w.heap.size:=World.ownsRow.lt h
theorem Below.drewSelf (B:Nat) (w:World) (n:Nat):Below B w (w.drewN n):=⟨rfl,rfl,rfl,Nat.le_refl _,fun _ _=>rfl⟩
theorem Bs.cellAt {w:World} {b off n cap:Nat} {zs:List Int} (h:Bs w (.slice (some ⟨b,off,none⟩) n cap) zs) {k:Nat} (hk:k<zs.length) :
  w.cell? ⟨b,off+k,none⟩=some (.int .u8 (zs.getD k 0)):=by
 obtain⟨hb,ao,cap,e,hl,hm,hn,hc⟩:=h;simp only[Value.slice.injEq] at e;obtain⟨rfl,-,-⟩:=e;obtain⟨b',off',e,hc⟩:=hc (by intro h0;rw[h0] at hk;simp at hk);simp only[Option.some.injEq,Addr.mk.injEq,and_true] at e;obtain⟨rfl,rfl⟩:=e;exact hc k hk
theorem Bs.addr {w:World} {v:Value} {zs:List Int} (h:Bs w v zs) (hne:0<zs.length) :
  ∃ b off cap,v=.slice (some ⟨b,off,none⟩) zs.length cap/\zs.length<=cap/\cap<=maxLen:=by
 obtain⟨hb,ao,cap,rfl,hl,hm,hn,hc⟩:=h;obtain⟨b,off,rfl,_⟩:=hc (by intro h0;rw[h0] at hne;simp at hne);exact⟨b,off,cap,rfl,hl,hm⟩
inductive Tr where
 | node (k:Int) (s:ByteArray) (l:List Tr)
def Tr.k:Tr->Int | .node k _ _=>k
def Tr.s:Tr->ByteArray | .node _ s _=>s
def Tr.l:Tr->List Tr | .node _ _ l=>l
instance:Inhabited Tr:=⟨.node 0 ⟨#[]⟩ []⟩
theorem Tr.eta:∀ t:Tr,.node t.k t.s t.l=t | .node _ _ _=>rfl
theorem Tr.ind {P:Tr->Prop} (h:∀ t:Tr,(∀ x∈t.l,P x)->P t):∀ t,P t:=by
 intro t;exact Tr.rec (motive_1:=P) (motive_2:=fun l=>∀ x∈l,P x) (fun k s l ih=>h (.node k s l) ih) (by simp) (fun a l ha hl=>by
  intro x hx;rcases List.mem_cons.1 hx with rfl | hx
  ·exact ha
  ·exact hl x hx) t
def At3 (w:World) (b o:Nat) (k:Int) (s:ByteArray) (v:Value):Prop :=
 w.cell? ⟨b,o,none⟩=some (.int .i64 k)/\w.cell? ⟨b,o+1,none⟩=some (.string s)/\w.cell? ⟨b,o+2,none⟩=some v
inductive Rl (w:World) (B:Nat->Prop):List Tr->Value->Prop
 | empty (ao:Option Addr) (cap:Nat) (hm:cap<=maxLen) (hn:ao=none->cap=0):Rl w B [] (.slice ao 0 cap)
 | full (l:List Tr) (b off cap:Nat) (V:Nat->Value) (hb:B b) (hl:l≠[]) (hc:l.length<=cap) (hm:cap<=maxLen)
   (hs:∀ i (h:i<l.length),l[i].s.size<=maxLen)
   (hcell:∀ i (h:i<l.length),At3 w b (off+i*3) l[i].k l[i].s (V i))
   (hsub:∀ i (h:i<l.length),Rl w B l[i].l (V i)):Rl w B l (.slice (some ⟨b,off,none⟩) l.length cap)
abbrev rx (k:Int) (s:ByteArray) (v:Value):Value:=.agg #[.int .i64 k,.string s,v]
theorem At3.grow {w w':World} {b o:Nat} {k:Int} {s:ByteArray} {v:Value} (h:At3 w b o k s v) (hk:Below w.heap.size w w'):At3 w' b o k s v:=by
 obtain⟨h0,h1,h2⟩:=h;have hb:=World.block_lt_of_cell? w _ h0;have hh:=hk.block b hb;exact⟨by rw[World.cell?_of_block (w:=w) hh];exact h0,by rw[World.cell?_of_block (w:=w) hh];exact h1,by rw[World.cell?_of_block (w:=w) hh];exact h2⟩
theorem At3.kept {w w':World} {b o:Nat} {k:Int} {s:ByteArray} {v:Value} (h:At3 w b o k s v) (hh:w'.heap[b]?=w.heap[b]?):At3 w' b o k s v:=by
 obtain⟨h0,h1,h2⟩:=h;exact⟨by rw[World.cell?_of_block (w:=w) hh];exact h0,by rw[World.cell?_of_block (w:=w) hh];exact h1,by rw[World.cell?_of_block (w:=w) hh];exact h2⟩
theorem Rl.kept {w w':World} {B:Nat->Prop} {l:List Tr} {v:Value} (h:Rl w B l v) (hk:∀ b,B b->b<w.heap.size->w'.heap[b]?=w.heap[b]?):Rl w' B l v:=by
 induction h with
 | empty ao cap hm hn=>exact .empty ao cap hm hn
 | full l b off cap V hb hl hc hm hs hcell hsub ih =>
  refine .full l b off cap V hb hl hc hm hs (fun i h=>(hcell i h).kept (hk b hb ?_)) ih;have h0:0<l.length:=List.length_pos_iff.2 hl;exact World.block_lt_of_cell? w _ (hcell 0 h0).1
theorem Rl.grow {w w':World} {B:Nat->Prop} {l:List Tr} {v:Value} (h:Rl w B l v) (hk:Below w.heap.size w w'):Rl w' B l v :=
 h.kept fun b _ hb=>hk.block b hb
theorem Rl.imp {w:World} {B C:Nat->Prop} {l:List Tr} {v:Value} (h:Rl w B l v) (hk:∀ b,B b->b<w.heap.size->C b):Rl w C l v:=by
 induction h with
 | empty ao cap hm hn=>exact .empty ao cap hm hn
 | full l b off cap V hb hl hc hm hs hcell hsub ih =>
  have h0:0<l.length:=List.length_pos_iff.2 hl;exact .full l b off cap V (hk b hb (World.block_lt_of_cell? w _ (hcell 0 h0).1)) hl hc hm hs hcell ih
abbrev anyBlock:Nat->Prop:=fun _=>True
theorem Rl.len {w:World} {B:Nat->Prop} {l:List Tr} {v:Value} (h:Rl w B l v):∃ ao cap,v=.slice ao l.length cap/\l.length<=cap/\cap<=maxLen/\(ao=none->cap=0):=by
 cases h with
 | empty ao cap hm hn=>exact⟨ao,cap,rfl,Nat.zero_le _,hm,hn⟩
 | full _ b off cap V hb hl hc hm hs hcell hsub=>exact⟨_,cap,rfl,hc,hm,fun h=>by cases h⟩
theorem Rl.elems {w:World} {B:Nat->Prop} {l:List Tr} {ao:Option Addr} {n cap:Nat} (h:Rl w B l (.slice ao n cap)) (hl:l≠[]) :
  ∃ (b off:Nat) (V:Nat->Value),ao=some ⟨b,off,none⟩/\∀ i (h:i<l.length),At3 w b (off+i*3) l[i].k l[i].s (V i)/\Rl w B l[i].l (V i)/\l[i].s.size<=maxLen:=by
 cases h with
 | empty _ _ _ _=>exact absurd rfl hl
 | full _ b off _ V hb hl hc hm hs hcell hsub=>exact⟨b,off,V,rfl,fun i h=>⟨hcell i h,hsub i h,hs i h⟩⟩
theorem Rl.zero (w:World) (B:Nat->Prop):Rl w B [] (.slice none 0 0):=.empty none 0 (by simp) fun _=>rfl
theorem cell_of_cells3 {w:World} {a:Addr} {cs:List Value} (h:w.cells? 0 a 3=some cs):∃ v0 v1 v2,cs=[v0,v1,v2]/\w.cell? (a.add 0)=some v0/\w.cell? (a.add 1)=some v1/\w.cell? (a.add 2)=some v2:=by
 obtain⟨_,hlen,hcell⟩:=World.cells?_some h
 match cs,hlen with
 | [v0,v1,v2],_=>exact⟨v0,v1,v2,rfl,by simpa using hcell 0 (by simp),by simpa using hcell 1 (by simp),by simpa using hcell 2 (by simp)⟩
section
variable {H:Type} {enc:TypeId × Value->H} {P:Program} {w:World} {sp:Nat->Bool} {held:Bool}
end
inductive Ex where
 | node (k n:Int) (s:ByteArray) (l:List Ex)
def Ex.k:Ex->Int | .node k _ _ _=>k
def Ex.n:Ex->Int | .node _ n _ _=>n
def Ex.s:Ex->ByteArray | .node _ _ s _=>s
def Ex.l:Ex->List Ex | .node _ _ _ l=>l
instance:Inhabited Ex:=⟨.node 0 0 ⟨#[]⟩ []⟩
theorem Ex.eta:∀ t:Ex,.node t.k t.n t.s t.l=t | .node _ _ _ _=>rfl
theorem Ex.ind {P:Ex->Prop} (h:∀ t:Ex,(∀ x∈t.l,P x)->P t):∀ t,P t:=by
 intro t;exact Ex.rec (motive_1:=P) (motive_2:=fun l=>∀ x∈l,P x) (fun k n s l ih=>h (.node k n s l) ih) (by simp) (fun a l ha hl=>by
  intro x hx;rcases List.mem_cons.1 hx with rfl | hx
  ·exact ha
  ·exact hl x hx) t
def Xt4 (w:World) (b o:Nat) (k n:Int) (s:ByteArray) (v:Value):Prop :=
 w.cell? ⟨b,o,none⟩=some (.int .i64 k)/\w.cell? ⟨b,o+1,none⟩=some (.int .i64 n)/\w.cell? ⟨b,o+2,none⟩=some (.string s)/\w.cell? ⟨b,o+3,none⟩=some v
inductive El (w:World) (B:Nat->Prop):List Ex->Value->Prop
 | empty (ao:Option Addr) (cap:Nat) (hm:cap<=maxLen) (hn:ao=none->cap=0):El w B [] (.slice ao 0 cap)
 | full (l:List Ex) (b off cap:Nat) (V:Nat->Value) (hb:B b) (hl:l≠[]) (hc:l.length<=cap) (hm:cap<=maxLen)
   (hs:∀ i (h:i<l.length),l[i].s.size<=maxLen)
   (hcell:∀ i (h:i<l.length),Xt4 w b (off+i*4) l[i].k l[i].n l[i].s (V i))
   (hsub:∀ i (h:i<l.length),El w B l[i].l (V i)):El w B l (.slice (some ⟨b,off,none⟩) l.length cap)
abbrev xx (k n:Int) (s:ByteArray) (v:Value):Value:=.agg #[.int .i64 k,.int .i64 n,.string s,v]
theorem Xt4.kept {w w':World} {b o:Nat} {k n:Int} {s:ByteArray} {v:Value} (h:Xt4 w b o k n s v) (hh:w'.heap[b]?=w.heap[b]?):Xt4 w' b o k n s v:=by
 obtain⟨h0,h1,h2,h3⟩:=h;exact⟨by rw[World.cell?_of_block (w:=w) hh];exact h0,by rw[World.cell?_of_block (w:=w) hh];exact h1,by rw[World.cell?_of_block (w:=w) hh];exact h2,by rw[World.cell?_of_block (w:=w) hh];exact h3⟩
theorem El.kept {w w':World} {B:Nat->Prop} {l:List Ex} {v:Value} (h:El w B l v) (hk:∀ b,B b->b<w.heap.size->w'.heap[b]?=w.heap[b]?):El w' B l v:=by
 induction h with
 | empty ao cap hm hn=>exact .empty ao cap hm hn
 | full l b off cap V hb hl hc hm hs hcell hsub ih =>
  refine .full l b off cap V hb hl hc hm hs (fun i h=>(hcell i h).kept (hk b hb ?_)) ih;have h0:0<l.length:=List.length_pos_iff.2 hl;exact World.block_lt_of_cell? w _ (hcell 0 h0).1
theorem El.grow {w w':World} {B:Nat->Prop} {l:List Ex} {v:Value} (h:El w B l v) (hk:Below w.heap.size w w'):El w' B l v :=
 h.kept fun b _ hb=>hk.block b hb
theorem El.imp {w:World} {B C:Nat->Prop} {l:List Ex} {v:Value} (h:El w B l v) (hk:∀ b,B b->b<w.heap.size->C b):El w C l v:=by
 induction h with
 | empty ao cap hm hn=>exact .empty ao cap hm hn
 | full l b off cap V hb hl hc hm hs hcell hsub ih =>
  have h0:0<l.length:=List.length_pos_iff.2 hl;exact .full l b off cap V (hk b hb (World.block_lt_of_cell? w _ (hcell 0 h0).1)) hl hc hm hs hcell ih
theorem El.setCell {w:World} {B:Nat->Prop} {l:List Ex} {v:Value} (h:El w B l v) {a:Addr} (ha:¬ B a.block) (u:Value):El (w.setCell a u) B l v :=
 h.kept fun b hb _=>heap_setCell_other w a b u fun e=>ha (e▸hb)
theorem El.any {w:World} {B:Nat->Prop} {l:List Ex} {v:Value} (h:El w B l v):El w anyBlock l v:=h.imp fun _ _ _=>trivial
theorem El.len {w:World} {B:Nat->Prop} {l:List Ex} {v:Value} (h:El w B l v):∃ ao cap,v=.slice ao l.length cap/\l.length<=cap/\cap<=maxLen/\(ao=none->cap=0):=by
 cases h with
 | empty ao cap hm hn=>exact⟨ao,cap,rfl,Nat.zero_le _,hm,hn⟩
 | full _ b off cap V hb hl hc hm hs hcell hsub=>exact⟨_,cap,rfl,hc,hm,fun h=>by cases h⟩
theorem El.elems {w:World} {B:Nat->Prop} {l:List Ex} {ao:Option Addr} {n cap:Nat} (h:El w B l (.slice ao n cap)) (hl:l≠[]) :
  ∃ (b off:Nat) (V:Nat->Value),ao=some ⟨b,off,none⟩/\∀ i (h:i<l.length),Xt4 w b (off+i*4) l[i].k l[i].n l[i].s (V i)/\El w B l[i].l (V i)/\l[i].s.size<=maxLen:=by
 cases h with
 | empty _ _ _ _=>exact absurd rfl hl
 | full _ b off _ V hb hl hc hm hs hcell hsub=>exact⟨b,off,V,rfl,fun i h=>⟨hcell i h,hsub i h,hs i h⟩⟩
theorem El.zero (w:World) (B:Nat->Prop):El w B [] (.slice none 0 0):=.empty none 0 (by simp) fun _=>rfl
theorem cell_of_cells4 {w:World} {a:Addr} {cs:List Value} (h:w.cells? 0 a 4=some cs):∃ v0 v1 v2 v3,cs=[v0,v1,v2,v3]/\w.cell? (a.add 0)=some v0/\w.cell? (a.add 1)=some v1/\w.cell? (a.add 2)=some v2/\w.cell? (a.add 3)=some v3:=by
 obtain⟨_,hlen,hcell⟩:=World.cells?_some h
 match cs,hlen with
 | [v0,v1,v2,v3],_=>exact⟨v0,v1,v2,v3,rfl,by simpa using hcell 0 (by simp),by simpa using hcell 1 (by simp),by simpa using hcell 2 (by simp),by simpa using hcell 3 (by simp)⟩
section
variable {H:Type} {enc:TypeId × Value->H} {P:Program} {w:World} {sp:Nat->Bool} {held:Bool}
theorem El.of_trod {t e ti ts:TypeId} {f0 fn f1 f2:Field} (ht:P.underlying t=some (.slice e)) (he:P.underlying e=some (.struct #[f0,fn,f1,f2]))
  (ce:P.cellsOf e=4) (o0:f0.offset=0) (on:fn.offset=1) (o1:f1.offset=2) (o2:f2.offset=3) (t0:f0.type=ti) (tn:fn.type=ti) (t1:f1.type=ts) (t2:f2.type=t)
  (c0:P.cellsOf ti=1) (c1:P.cellsOf ts=1) (c2:P.cellsOf t=1) (hi:P.underlying ti=some (.int .i64)) (hst:P.underlying ts=some .string) :
  ∀ (fuel:Nat) (cs:List Value) (x:DataW H × List MemPlace),DataW.trod enc P w 0 sp held fuel t cs=some x->∃ v l,cs=[v]/\El w anyBlock l v:=by
 intro fuel;induction fuel using Nat.strongRecOn with
 | _ fuel ih =>
 intro cs x h;rcases DataW.trod_slice ht h with⟨rfl,_⟩ | ⟨a,len,cap,elems,rest,n,hn,rfl,rfl,hb,hl,hm,hlen,hel,hsp,hns⟩
 ·exact⟨_,[],rfl,El.zero w _⟩
 ·subst hn
  have each:∀ i,i<len->∃ q:Ex × Value,q.1.s.size<=maxLen/\w.cell? (a.add (i*4))=some (.int .i64 q.1.k)/\w.cell? (a.add (i*4+1))=some (.int .i64 q.1.n)/\w.cell? (a.add (i*4+2))=some (.string q.1.s)/\w.cell? (a.add (i*4+3))=some q.2/\El w anyBlock q.1.l q.2:=by
   intro i hi';have:=hel i hi';rw[ce,List.getElem?_eq_getElem (by omega)] at this;obtain⟨cs',h1,h2⟩:=Option.bind_eq_some_iff.1 this;obtain⟨v0,vn,v1,v2,rfl,e0,en,e1,e2⟩:=cell_of_cells4 h1;obtain⟨xs,k,hk,hxy,_,hxl,hf⟩:=DataW.trod_struct he h2;subst hk;have g0:=hf 0 f0 rfl;have gn:=hf 1 fn rfl;have g1:=hf 2 f1 rfl;have g2:=hf 3 f2 rfl;simp[o0,on,o1,o2,t0,tn,t1,t2,c0,c1,c2] at g0 gn g1 g2;have hxl':xs.length=4:=(by simpa using hxl);rw[List.getElem?_eq_getElem (by omega)] at g0 gn g1 g2;obtain⟨k0,hk0,_,_⟩:=DataW.trod_int hi g0;obtain⟨n0,hn0,_,_⟩:=DataW.trod_int hi gn;obtain⟨s0,hs0,_,hsz⟩:=DataW.trod_string hst g1;obtain⟨v,l,hv,hr⟩:=ih k (by omega) _ _ g2;simp at hk0 hn0 hs0 hv;subst hk0 hn0 hs0 hv;rw[Go.Deep.add_add] at e0 en e1 e2;exact⟨(.node k0 n0 s0 l,v2),hsz,by simpa [Ex.k] using e0,by simpa [Ex.n] using en,by simpa [Ex.s] using e1,by simpa using e2,hr⟩
  obtain⟨q,hq⟩:=Go.Deep.choose_lt each;rcases Nat.eq_zero_or_pos len with h0 | h0
  ·subst h0
   exact⟨_,[],rfl,.empty _ _ hm fun h=>by cases h⟩
  ·obtain⟨b,off,spot⟩:=a
   have hspot:spot=none:=(by simpa [Addr.add] using World.cell?_spot (hq 0 h0).2.1);subst hspot;refine⟨_,(List.range len).map fun i=>(q i).1,rfl,?_⟩;have hll:((List.range len).map fun i=>(q i).1).length=len:=(by simp);have:=El.full (w:=w) (B:=anyBlock) ((List.range len).map fun i=>(q i).1) b off cap (fun i=>(q i).2) trivial (by intro h;rw[h] at hll;simp at hll;omega) (by rw[hll];exact hl) hm
    (fun i h=>by rw[hll] at h;simpa using (hq i h).1)
    (fun i h=>by
     rw[hll] at h;obtain⟨_,x0,xn,x1,x2,_⟩:=hq i h;simp only[Addr.add_lit] at x0 xn x1 x2;simp only[List.getElem_map,List.getElem_range];exact⟨x0,xn,x1,x2⟩)
    (fun i h=>by rw[hll] at h;simpa using (hq i h).2.2.2.2.2)
   rwa [hll] at this
end
inductive St where
 | node (k:Int) (s t:ByteArray) (x:List Ex) (a b:List St)
def St.k:St->Int | .node k _ _ _ _ _=>k
def St.s:St->ByteArray | .node _ s _ _ _ _=>s
def St.t:St->ByteArray | .node _ _ t _ _ _=>t
def St.x:St->List Ex | .node _ _ _ x _ _=>x
def St.a:St->List St | .node _ _ _ _ a _=>a
def St.b:St->List St | .node _ _ _ _ _ b=>b
instance:Inhabited St:=⟨.node 0 ⟨#[]⟩ ⟨#[]⟩ [] [] []⟩
theorem St.ind {P:St->Prop} (h:∀ t:St,(∀ y∈t.a,P y)->(∀ y∈t.b,P y)->P t):∀ t,P t:=by
 intro t;exact St.rec (motive_1:=P) (motive_2:=fun l=>∀ y∈l,P y) (fun k s t x a b iha ihb=>h (.node k s t x a b) iha ihb) (by simp) (fun a l ha hl=>by
  intro x hx;rcases List.mem_cons.1 hx with rfl | hx
  ·exact ha
  ·exact hl x hx) t
def St6 (w:World) (b o:Nat) (k:Int) (s t:ByteArray) (x y z:Value):Prop :=
 w.cell? ⟨b,o,none⟩=some (.int .i64 k)/\w.cell? ⟨b,o+1,none⟩=some (.string s)/\w.cell? ⟨b,o+2,none⟩=some (.string t)/\w.cell? ⟨b,o+3,none⟩=some x/\w.cell? ⟨b,o+4,none⟩=some y/\w.cell? ⟨b,o+5,none⟩=some z
inductive Sl (w:World) (B:Nat->Prop):List St->Value->Prop
 | empty (ao:Option Addr) (cap:Nat) (hm:cap<=maxLen) (hn:ao=none->cap=0):Sl w B [] (.slice ao 0 cap)
 | full (l:List St) (b off cap:Nat) (X Y Z:Nat->Value) (hb:B b) (hl:l≠[]) (hc:l.length<=cap) (hm:cap<=maxLen)
   (hs:∀ i (h:i<l.length),l[i].s.size<=maxLen/\l[i].t.size<=maxLen)
   (hcell:∀ i (h:i<l.length),St6 w b (off+i*6) l[i].k l[i].s l[i].t (X i) (Y i) (Z i))
   (hx:∀ i (h:i<l.length),El w B l[i].x (X i))
   (ha:∀ i (h:i<l.length),Sl w B l[i].a (Y i))
   (hz:∀ i (h:i<l.length),Sl w B l[i].b (Z i)):Sl w B l (.slice (some ⟨b,off,none⟩) l.length cap)
abbrev st (k:Int) (s t:ByteArray) (x y z:Value):Value:=.agg #[.int .i64 k,.string s,.string t,x,y,z]
theorem St6.kept {w w':World} {b o:Nat} {k:Int} {s t:ByteArray} {x y z:Value} (h:St6 w b o k s t x y z) (hh:w'.heap[b]?=w.heap[b]?):St6 w' b o k s t x y z:=by
 obtain⟨h0,h1,h2,h3,h4,h5⟩:=h;exact⟨by rw[World.cell?_of_block (w:=w) hh];exact h0,by rw[World.cell?_of_block (w:=w) hh];exact h1,by rw[World.cell?_of_block (w:=w) hh];exact h2,by rw[World.cell?_of_block (w:=w) hh];exact h3,by rw[World.cell?_of_block (w:=w) hh];exact h4,by rw[World.cell?_of_block (w:=w) hh];exact h5⟩
theorem Sl.kept {w w':World} {B:Nat->Prop} {l:List St} {v:Value} (h:Sl w B l v) (hk:∀ b,B b->b<w.heap.size->w'.heap[b]?=w.heap[b]?):Sl w' B l v:=by
 induction h with
 | empty ao cap hm hn=>exact .empty ao cap hm hn
 | full l b off cap X Y Z hb hl hc hm hs hcell hx ha hz iha ihz =>
  refine .full l b off cap X Y Z hb hl hc hm hs (fun i h=>(hcell i h).kept (hk b hb ?_)) (fun i h=>(hx i h).kept hk) iha ihz;have h0:0<l.length:=List.length_pos_iff.2 hl;exact World.block_lt_of_cell? w _ (hcell 0 h0).1
theorem Sl.grow {w w':World} {B:Nat->Prop} {l:List St} {v:Value} (h:Sl w B l v) (hk:Below w.heap.size w w'):Sl w' B l v :=
 h.kept fun b _ hb=>hk.block b hb
theorem Sl.imp {w:World} {B C:Nat->Prop} {l:List St} {v:Value} (h:Sl w B l v) (hk:∀ b,B b->b<w.heap.size->C b):Sl w C l v:=by
 induction h with
 | empty ao cap hm hn=>exact .empty ao cap hm hn
 | full l b off cap X Y Z hb hl hc hm hs hcell hx ha hz iha ihz =>
  have h0:0<l.length:=List.length_pos_iff.2 hl;exact .full l b off cap X Y Z (hk b hb (World.block_lt_of_cell? w _ (hcell 0 h0).1)) hl hc hm hs hcell (fun i h=>(hx i h).imp hk) iha ihz
theorem Sl.setCell {w:World} {B:Nat->Prop} {l:List St} {v:Value} (h:Sl w B l v) {a:Addr} (ha:¬ B a.block) (u:Value):Sl (w.setCell a u) B l v :=
 h.kept fun b hb _=>heap_setCell_other w a b u fun e=>ha (e▸hb)
theorem Sl.any {w:World} {B:Nat->Prop} {l:List St} {v:Value} (h:Sl w B l v):Sl w anyBlock l v:=h.imp fun _ _ _=>trivial
theorem Sl.len {w:World} {B:Nat->Prop} {l:List St} {v:Value} (h:Sl w B l v):∃ ao cap,v=.slice ao l.length cap/\l.length<=cap/\cap<=maxLen/\(ao=none->cap=0):=by
 cases h with
 | empty ao cap hm hn=>exact⟨ao,cap,rfl,Nat.zero_le _,hm,hn⟩
 | full _ b off cap X Y Z hb hl hc hm hs hcell hx ha hz=>exact⟨_,cap,rfl,hc,hm,fun h=>by cases h⟩
theorem Sl.elems {w:World} {B:Nat->Prop} {l:List St} {ao:Option Addr} {n cap:Nat} (h:Sl w B l (.slice ao n cap)) (hl:l≠[]) :
  ∃ (b off:Nat) (X Y Z:Nat->Value),ao=some ⟨b,off,none⟩/\∀ i (h:i<l.length),St6 w b (off+i*6) l[i].k l[i].s l[i].t (X i) (Y i) (Z i)/\El w B l[i].x (X i)/\Sl w B l[i].a (Y i)/\Sl w B l[i].b (Z i)/\l[i].s.size<=maxLen/\l[i].t.size<=maxLen:=by
 cases h with
 | empty _ _ _ _=>exact absurd rfl hl
 | full _ b off _ X Y Z hb hl hc hm hs hcell hx ha hz=>exact⟨b,off,X,Y,Z,rfl,fun i h=>⟨hcell i h,hx i h,ha i h,hz i h,hs i h⟩⟩
theorem Sl.zero (w:World) (B:Nat->Prop):Sl w B [] (.slice none 0 0):=.empty none 0 (by simp) fun _=>rfl
theorem cell_of_cells6 {w:World} {a:Addr} {cs:List Value} (h:w.cells? 0 a 6=some cs):∃ v0 v1 v2 v3 v4 v5,cs=[v0,v1,v2,v3,v4,v5]/\w.cell? (a.add 0)=some v0/\w.cell? (a.add 1)=some v1/\w.cell? (a.add 2)=some v2/\w.cell? (a.add 3)=some v3/\w.cell? (a.add 4)=some v4/\w.cell? (a.add 5)=some v5:=by
 obtain⟨_,hlen,hcell⟩:=World.cells?_some h
 match cs,hlen with
 | [v0,v1,v2,v3,v4,v5],_=>exact⟨v0,v1,v2,v3,v4,v5,rfl,by simpa using hcell 0 (by simp),by simpa using hcell 1 (by simp),by simpa using hcell 2 (by simp),by simpa using hcell 3 (by simp),by simpa using hcell 4 (by simp),by simpa using hcell 5 (by simp)⟩
section
variable {H:Type} {enc:TypeId × Value->H} {P:Program} {w:World} {sp:Nat->Bool} {held:Bool}
theorem Sl.of_trod {t e ti ts tx:TypeId} {f0 f1 f2 f3 f4 f5:Field} (ht:P.underlying t=some (.slice e)) (he:P.underlying e=some (.struct #[f0,f1,f2,f3,f4,f5]))
  (ce:P.cellsOf e=6) (o0:f0.offset=0) (o1:f1.offset=1) (o2:f2.offset=2) (o3:f3.offset=3) (o4:f4.offset=4) (o5:f5.offset=5)
  (t0:f0.type=ti) (t1:f1.type=ts) (t2:f2.type=ts) (t3:f3.type=tx) (t4:f4.type=t) (t5:f5.type=t)
  (c0:P.cellsOf ti=1) (c1:P.cellsOf ts=1) (cx:P.cellsOf tx=1) (c2:P.cellsOf t=1) (hi:P.underlying ti=some (.int .i64)) (hst:P.underlying ts=some .string)
  (hX:∀ (fuel:Nat) (cs:List Value) (x:DataW H × List MemPlace),DataW.trod enc P w 0 sp held fuel tx cs=some x->∃ v l,cs=[v]/\El w anyBlock l v) :
  ∀ (fuel:Nat) (cs:List Value) (x:DataW H × List MemPlace),DataW.trod enc P w 0 sp held fuel t cs=some x->∃ v l,cs=[v]/\Sl w anyBlock l v:=by
 intro fuel;induction fuel using Nat.strongRecOn with
 | _ fuel ih =>
 intro cs x h;rcases DataW.trod_slice ht h with⟨rfl,_⟩ | ⟨a,len,cap,elems,rest,n,hn,rfl,rfl,hb,hl,hm,hlen,hel,hsp,hns⟩
 ·exact⟨_,[],rfl,Sl.zero w _⟩
 ·subst hn
  have each:∀ i,i<len->∃ q:St × Value × Value × Value,(q.1.s.size<=maxLen/\q.1.t.size<=maxLen)/\w.cell? (a.add (i*6))=some (.int .i64 q.1.k)/\w.cell? (a.add (i*6+1))=some (.string q.1.s)/\w.cell? (a.add (i*6+2))=some (.string q.1.t)/\w.cell? (a.add (i*6+3))=some q.2.1/\w.cell? (a.add (i*6+4))=some q.2.2.1/\w.cell? (a.add (i*6+5))=some q.2.2.2/\El w anyBlock q.1.x q.2.1/\Sl w anyBlock q.1.a q.2.2.1/\Sl w anyBlock q.1.b q.2.2.2:=by
   intro i hi';have:=hel i hi';rw[ce,List.getElem?_eq_getElem (by omega)] at this;obtain⟨cs',h1,h2⟩:=Option.bind_eq_some_iff.1 this;obtain⟨v0,v1,v2,v3,v4,v5,rfl,e0,e1,e2,e3,e4,e5⟩:=cell_of_cells6 h1;obtain⟨xs,k,hk,hxy,_,hxl,hf⟩:=DataW.trod_struct he h2;subst hk;have g0:=hf 0 f0 rfl;have g1:=hf 1 f1 rfl;have g2:=hf 2 f2 rfl;have g3:=hf 3 f3 rfl;have g4:=hf 4 f4 rfl;have g5:=hf 5 f5 rfl;simp[o0,o1,o2,o3,o4,o5,t0,t1,t2,t3,t4,t5,c0,c1,c2,cx] at g0 g1 g2 g3 g4 g5;have hxl':xs.length=6:=(by simpa using hxl);rw[List.getElem?_eq_getElem (by omega)] at g0 g1 g2 g3 g4 g5;obtain⟨k0,hk0,_,_⟩:=DataW.trod_int hi g0;obtain⟨s0,hs0,_,hsz⟩:=DataW.trod_string hst g1;obtain⟨u0,hu0,_,huz⟩:=DataW.trod_string hst g2;obtain⟨vx,lx,hvx,hrx⟩:=hX _ _ _ g3;obtain⟨va,la,hva,hra⟩:=ih k (by omega) _ _ g4;obtain⟨vb,lb,hvb,hrb⟩:=ih k (by omega) _ _ g5;simp at hk0 hs0 hu0 hvx hva hvb;subst hk0 hs0 hu0 hvx hva hvb;rw[Go.Deep.add_add] at e0 e1 e2 e3 e4 e5;exact⟨(.node k0 s0 u0 lx la lb,v3,v4,v5),⟨hsz,huz⟩,by simpa [St.k] using e0,by simpa [St.s] using e1,by simpa [St.t] using e2,by simpa using e3,by simpa using e4,by simpa using e5,hrx,hra,hrb⟩
  obtain⟨q,hq⟩:=Go.Deep.choose_lt each;rcases Nat.eq_zero_or_pos len with h0 | h0
  ·subst h0
   exact⟨_,[],rfl,.empty _ _ hm fun h=>by cases h⟩
  ·obtain⟨b,off,spot⟩:=a
   have hspot:spot=none:=(by simpa [Addr.add] using World.cell?_spot (hq 0 h0).2.1);subst hspot;refine⟨_,(List.range len).map fun i=>(q i).1,rfl,?_⟩;have hll:((List.range len).map fun i=>(q i).1).length=len:=(by simp);have:=Sl.full (w:=w) (B:=anyBlock) ((List.range len).map fun i=>(q i).1) b off cap (fun i=>(q i).2.1) (fun i=>(q i).2.2.1) (fun i=>(q i).2.2.2) trivial (by intro h;rw[h] at hll;simp at hll;omega) (by rw[hll];exact hl) hm
    (fun i h=>by rw[hll] at h;simpa using (hq i h).1)
    (fun i h=>by
     rw[hll] at h;obtain⟨_,x0,x1,x2,x3,x4,x5,_⟩:=hq i h;simp only[Addr.add_lit] at x0 x1 x2 x3 x4 x5;simp only[List.getElem_map,List.getElem_range];exact⟨x0,x1,x2,x3,x4,x5⟩)
    (fun i h=>by rw[hll] at h;simpa using (hq i h).2.2.2.2.2.2.2.1)
    (fun i h=>by rw[hll] at h;simpa using (hq i h).2.2.2.2.2.2.2.2.1)
    (fun i h=>by rw[hll] at h;simpa using (hq i h).2.2.2.2.2.2.2.2.2)
   rwa [hll] at this
end
set_option maxRecDepth 8000
abbrev vl (k n:Int) (s:ByteArray):Value:=.agg #[.int .i64 k,.int .i64 n,.string s]
abbrev boxed (w:World) (k n:Int) (s:ByteArray) (t:Nat):World:=w.alloc (.cells #[.int .i64 k,.int .i64 n,.string s] t)
def okB (k n:Int) (s:ByteArray):Bool :=
 if k=0 then n==0&&s.toList.isEmpty else if k=1 then Ma.wr n==n&&s.toList.isEmpty else if k=2 then decide ((s.size:Int)<=200)&&n==0 else false
def truB (k n:Int) (s:ByteArray):Bool:=if k=2 then !s.toList.isEmpty else n != 0
abbrev noTxt:ByteArray:=⟨#[]⟩
theorem info5:(Tryz.prog.info? 5).map (fun i=>(i.zero,i.size,i.bytes))=some (some (.int .u8 0),1,1):=by kernel_rfl
def marks (k:Int) (n:Nat):List Int:=(List.range n).map fun(i:Nat)=>(k+(i:Int)) % 256
theorem Bs.one (w:World) (c:Int) (h0:0<=c) (h1:c<=255):Bs (w.alloc (.cells #[.int .u8 c] 5)) (.slice (some ⟨w.heap.size,0,none⟩) 1 1) [c]:=by
 refine⟨by intro z hz;simp at hz;omega,_,1,rfl,by simp,by decide,fun h=>by simp at h,fun _=>⟨_,0,rfl,fun i hi=>?_⟩⟩;obtain rfl:i=0:=by simpa using hi
 simp
def txt (s:ByteArray):List Int:=s.data.toList.map fun b=>((b.toNat:Nat):Int)
theorem txt_length (s:ByteArray):(txt s).length=s.size:=by
 rw[txt,List.length_map,Array.length_toList];rfl
theorem txt_cells (s:ByteArray):Lib.strCells s=U8 (txt s):=by simp[Lib.strCells,U8,txt]
theorem txt_byte (s:ByteArray):byteList (txt s):=by
 intro z hz;obtain⟨b,_,rfl⟩:=List.mem_map.1 hz;have:=b.toNat_lt;omega
def strOf (l:List Int):ByteArray:=⟨(l.map fun z=>UInt8.ofNat z.toNat).toArray⟩
theorem u8_back (z:Int) (h0:0<=z) (h1:z<=255):((UInt8.ofNat z.toNat).toNat:Int)=z:=by
 rw[UInt8.toNat_ofNat'];omega
theorem run_strOf {w:World} {b off n cap:Nat} {zs:List Int} (h:Bs w (.slice (some ⟨b,off,none⟩) n cap) zs) (hn:n=zs.length) :
  (convert 22 9 (.slice (some ⟨b,off,none⟩) n cap)).run Tryz.prog w=.ok (.string (strOf zs)) w:=by
 have hl:(zs.map fun z=>UInt8.ofNat z.toNat).length=n:=by simp[hn]
 have:=run_convert_bytes_back (P:=Tryz.prog) w 22 9 5 ⟨b,off,none⟩ cap (zs.map fun z=>UInt8.ofNat z.toNat) Tryz.underlying22 Tryz.underlying5 Tryz.underlying9 (fun j hj=>by
  have hj':j<zs.length:=(by simpa using hj);rw[Addr.add_lit,h.cellAt hj'];have hb:=h.1.getD j;have e:zs.getD j 0=zs[j]:=(by simp[List.getD,hj']);rw[e] at hb |-;simp only[List.getElem_map];rw[u8_back _ hb.1 hb.2])
 rw[hl] at this;exact this
theorem run_strOf_none (w:World) (a:Addr) (cap:Nat) :
  (convert 22 9 (.slice (some a) 0 cap)).run Tryz.prog w=.ok (.string (strOf [])) w :=
 run_convert_bytes_back (P:=Tryz.prog) w 22 9 5 a cap [] Tryz.underlying22 Tryz.underlying5 Tryz.underlying9 (fun j hj=>by simp at hj)
theorem run_strOf_any {w:World} {v:Value} {zs:List Int} (h:Bs w v zs):(convert 22 9 v).run Tryz.prog w=.ok (.string (strOf zs)) w:=by
 by_cases hz:0<zs.length
 ·obtain⟨b,off,cap,rfl,_,_⟩:=h.addr hz
  exact run_strOf h rfl
 ·have hz':zs=[]:=List.eq_nil_of_length_eq_zero (by omega)
  obtain⟨_,ao,cap,rfl,_,_,hn,_⟩:=h;subst hz';cases ao with
  | some a=>exact run_strOf_none w a cap
  | none =>
   have:=hn rfl;subst this;show(convert 22 9 (.slice none 0 0)).run Tryz.prog w=_
   rw[run_convert_bytes_string w 22 9 5 none 0 0 Tryz.underlying22 Tryz.underlying5 Tryz.underlying9];simp[Conv.bytesToString];rfl
theorem strOf_size (l:List Int):(strOf l).size=l.length:=by
 show(l.map fun z=>UInt8.ofNat z.toNat).toArray.size=l.length
 simp
theorem byte_txt (s:ByteArray) (i:Nat) (h:i<s.size):((s[i].toNat:Nat):Int)=(txt s).getD i 0:=by
 have hl:i<(txt s).length:=by rw[txt_length];exact h
 rw[List.getD,List.getElem?_eq_getElem hl];simp[txt];rfl
end Go.Proofs.YtkbijjkgfojchaaGreat
