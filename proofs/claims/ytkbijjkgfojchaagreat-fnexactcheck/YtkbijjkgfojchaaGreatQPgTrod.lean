/- What is read as data reads as texts,rules,functions. .. -/
import Derived.Test.YtkbijjkgfojchaaGreatQRun26
import Derived.ChangeOld
namespace Go.Proofs.YtkbijjkgfojchaaGreat
open Go.RowKit Go.ChangeShapes
section
variable {H:Type} {enc:TypeId × Value->H} {P:Program} {w:World} {sp:Nat->Bool} {held:Bool}
theorem Tb.of_trod {t e:TypeId} (ht:P.underlying t=some (.slice e)) (he:P.underlying e=some .string) (hc:P.cellsOf e=1) :
  ∀ (fuel:Nat) (cs:List Value) (x:DataW H × List MemPlace),DataW.trod enc P w 0 sp held fuel t cs=some x->∃ v l,cs=[v]/\Tb w anyBlock v l:=by
 intro fuel cs x h;rcases DataW.trod_slice ht h with⟨rfl,_⟩ | ⟨a,len,cap,elems,rest,n,hn,rfl,rfl,hb,hl,hm,hlen,hel,hsp,hns⟩
 ·exact⟨_,[],rfl,Tb.zero w _⟩
 ·have each:∀ i,i<len->∃ s:ByteArray,s.size<=maxLen/\w.cell? (a.add i)=some (.string s):=by
   intro i hi;have:=hel i hi;rw[hc,Nat.mul_one,List.getElem?_eq_getElem (by omega)] at this;obtain⟨cs',h1,h2⟩:=Option.bind_eq_some_iff.1 this;obtain⟨_,hl1,hcell⟩:=World.cells?_some h1;obtain⟨s,hs,_,hsz⟩:=DataW.trod_string he h2;subst hs;refine⟨s,hsz,?_⟩;have:=hcell 0 (by simp);rw[Go.Deep.add_add,Nat.add_zero] at this
   simpa using this
  obtain⟨q,hq⟩:=Go.Deep.choose_lt each;refine⟨_,(List.range len).map q,rfl,some a,cap,by simp,by simpa using hl,hm,(fun h=>by cases h),?_,fun hne=>?_⟩
  ·intro s hs
   obtain⟨i,hi,rfl⟩:=List.mem_map.1 hs;exact(hq i (by simpa using hi)).1
  ·have h0:0<len:=by
    have:=List.length_pos_iff.2 hne
    simpa using this
   obtain⟨b,off,spot⟩:=a;have hspot:spot=none:=(by simpa [Addr.add] using World.cell?_spot (hq 0 h0).2);subst hspot;refine⟨b,off,rfl,trivial,fun k hk=>?_⟩;have hk':k<len:=(by simpa using hk);have:=(hq k hk').2;rw[Addr.add_lit] at this
   simpa [hk'] using this
theorem Ex.of_struct {e ti ts t:TypeId} {f0 fn f1 f2:Field} (he:P.underlying e=some (.struct #[f0,fn,f1,f2]))
  (o0:f0.offset=0) (on:fn.offset=1) (o1:f1.offset=2) (o2:f2.offset=3) (t0:f0.type=ti) (tn:fn.type=ti) (t1:f1.type=ts) (t2:f2.type=t)
  (c0:P.cellsOf ti=1) (c1:P.cellsOf ts=1) (c2:P.cellsOf t=1) (hi:P.underlying ti=some (.int .i64)) (hst:P.underlying ts=some .string)
  (hX:∀ (fuel:Nat) (cs:List Value) (x:DataW H × List MemPlace),DataW.trod enc P w 0 sp held fuel t cs=some x->∃ v l,cs=[v]/\El w anyBlock l v) :
  ∀ (fuel:Nat) (v0 v1 v2 v3:Value) (x:DataW H × List MemPlace),DataW.trod enc P w 0 sp held fuel e [v0,v1,v2,v3]=some x->∃ t:Ex,v0=.int .i64 t.k/\v1=.int .i64 t.n/\v2=.string t.s/\El w anyBlock t.l v3/\t.s.size<=maxLen:=by
 intro fuel v0 v1 v2 v3 x h;obtain⟨xs,k,hk,hxy,_,hxl,hf⟩:=DataW.trod_struct he h;have g0:=hf 0 f0 rfl;have gn:=hf 1 fn rfl;have g1:=hf 2 f1 rfl;have g2:=hf 3 f2 rfl;simp[o0,on,o1,o2,t0,tn,t1,t2,c0,c1,c2] at g0 gn g1 g2;have hxl':xs.length=4:=by simpa using hxl
 rw[List.getElem?_eq_getElem (by omega)] at g0 gn g1 g2;obtain⟨k0,hk0,_,_⟩:=DataW.trod_int hi g0;obtain⟨n0,hn0,_,_⟩:=DataW.trod_int hi gn;obtain⟨s0,hs0,_,hsz⟩:=DataW.trod_string hst g1;obtain⟨v,l,hv,hr⟩:=hX _ _ _ g2;simp at hk0 hn0 hs0 hv;subst hk0 hn0 hs0 hv;exact⟨.node k0 n0 s0 l,rfl,rfl,rfl,hr,hsz⟩
theorem Ul.of_trod {t e ti tx tl:TypeId} {f0 f1 f2:Field} (ht:P.underlying t=some (.slice e)) (he:P.underlying e=some (.struct #[f0,f1,f2]))
  (ce:P.cellsOf e=6) (o0:f0.offset=0) (o1:f1.offset=1) (o2:f2.offset=5) (t0:f0.type=ti) (t1:f1.type=tx) (t2:f2.type=tl)
  (c0:P.cellsOf ti=1) (c1:P.cellsOf tx=4) (c2:P.cellsOf tl=1) (hi:P.underlying ti=some (.int .i64))
  (hE:∀ (fuel:Nat) (v0 v1 v2 v3:Value) (x:DataW H × List MemPlace),DataW.trod enc P w 0 sp held fuel tx [v0,v1,v2,v3]=some x->∃ t:Ex,v0=.int .i64 t.k/\v1=.int .i64 t.n/\v2=.string t.s/\El w anyBlock t.l v3/\t.s.size<=maxLen)
  (hS:∀ (fuel:Nat) (cs:List Value) (x:DataW H × List MemPlace),DataW.trod enc P w 0 sp held fuel tl cs=some x->∃ v l,cs=[v]/\Sl w anyBlock l v) :
  ∀ (fuel:Nat) (cs:List Value) (x:DataW H × List MemPlace),DataW.trod enc P w 0 sp held fuel t cs=some x->∃ v l,cs=[v]/\Ul w anyBlock l v:=by
 intro fuel cs x h;rcases DataW.trod_slice ht h with⟨rfl,_⟩ | ⟨a,len,cap,elems,rest,n,hn,rfl,rfl,hb,hl,hm,hlen,hel,hsp,hns⟩
 ·exact⟨_,[],rfl,Ul.zero w _⟩
 ·have each:∀ i,i<len->∃ q:Ru × Value × Value,w.cell? (a.add (i*6))=some (.int .i64 q.1.k)/\w.cell? (a.add (i*6+1))=some (.int .i64 q.1.p.k)/\w.cell? (a.add (i*6+2))=some (.int .i64 q.1.p.n)/\w.cell? (a.add (i*6+3))=some (.string q.1.p.s)/\w.cell? (a.add (i*6+4))=some q.2.1/\w.cell? (a.add (i*6+5))=some q.2.2/\El w anyBlock q.1.p.l q.2.1/\Sl w anyBlock q.1.a q.2.2/\q.1.p.s.size<=maxLen:=by
   intro i hi';have:=hel i hi';rw[ce,List.getElem?_eq_getElem (by omega)] at this;obtain⟨cs',h1,h2⟩:=Option.bind_eq_some_iff.1 this;obtain⟨v0,v1,v2,v3,v4,v5,rfl,e0,e1,e2,e3,e4,e5⟩:=cell_of_cells6 h1;obtain⟨xs,k,hk,hxy,_,hxl,hf⟩:=DataW.trod_struct he h2;have g0:=hf 0 f0 rfl;have g1:=hf 1 f1 rfl;have g2:=hf 2 f2 rfl;simp[o0,o1,o2,t0,t1,t2,c0,c1,c2] at g0 g1 g2;have hxl':xs.length=3:=(by simpa using hxl);rw[List.getElem?_eq_getElem (by omega)] at g0 g1 g2;obtain⟨k0,hk0,_,_⟩:=DataW.trod_int hi g0;obtain⟨t,rfl,rfl,rfl,hr,hsz⟩:=hE _ _ _ _ _ _ g1;obtain⟨v,l,hv,hs⟩:=hS _ _ _ g2;simp at hk0 hv;subst hk0 hv;rw[Go.Deep.add_add] at e0 e1 e2 e3 e4 e5;exact⟨(⟨k0,t,l⟩,v4,v5),by simpa using e0,by simpa using e1,by simpa using e2,by simpa using e3,by simpa using e4,by simpa using e5,hr,hs,hsz⟩
  obtain⟨q,hq⟩:=Go.Deep.choose_lt each;refine⟨_,(List.range len).map fun i=>(q i).1,rfl,some a,cap,by simp,by simpa using hl,hm,(fun h=>by cases h),fun hne=>?_⟩;have h0:0<len:=by
   have:=List.length_pos_iff.2 hne
   simpa using this
  obtain⟨b,off,spot⟩:=a;have hspot:spot=none:=(by simpa [Addr.add] using World.cell?_spot (hq 0 h0).1);subst hspot;refine⟨b,off,fun i=>(q i).2.1,fun i=>(q i).2.2,rfl,trivial,fun i h=>?_⟩;have hi':i<len:=(by simpa using h);obtain⟨x0,x1,x2,x3,x4,x5,y1,y2,y3⟩:=hq i hi';simp only[Addr.add_lit] at x0 x1 x2 x3 x4 x5;simp only[List.getElem_map,List.getElem_range];exact⟨⟨x0,x1,x2,x3,x4,x5⟩,y1,y2,y3⟩
theorem Fl.of_trod {t e ts tp tl:TypeId} {f0 f1 f2:Field} (ht:P.underlying t=some (.slice e)) (he:P.underlying e=some (.struct #[f0,f1,f2]))
  (ce:P.cellsOf e=3) (o0:f0.offset=0) (o1:f1.offset=1) (o2:f2.offset=2) (t0:f0.type=ts) (t1:f1.type=tp) (t2:f2.type=tl)
  (c0:P.cellsOf ts=1) (c1:P.cellsOf tp=1) (c2:P.cellsOf tl=1) (hst:P.underlying ts=some .string)
  (hP:∀ (fuel:Nat) (cs:List Value) (x:DataW H × List MemPlace),DataW.trod enc P w 0 sp held fuel tp cs=some x->∃ v l,cs=[v]/\Tb w anyBlock v l)
  (hS:∀ (fuel:Nat) (cs:List Value) (x:DataW H × List MemPlace),DataW.trod enc P w 0 sp held fuel tl cs=some x->∃ v l,cs=[v]/\Sl w anyBlock l v) :
  ∀ (fuel:Nat) (cs:List Value) (x:DataW H × List MemPlace),DataW.trod enc P w 0 sp held fuel t cs=some x->∃ v l,cs=[v]/\Fl w anyBlock l v:=by
 intro fuel cs x h;rcases DataW.trod_slice ht h with⟨rfl,_⟩ | ⟨a,len,cap,elems,rest,n,hn,rfl,rfl,hb,hl,hm,hlen,hel,hsp,hns⟩
 ·exact⟨_,[],rfl,Fl.zero w _⟩
 ·have each:∀ i,i<len->∃ q:Fu × Value × Value,w.cell? (a.add (i*3))=some (.string q.1.n)/\w.cell? (a.add (i*3+1))=some q.2.1/\w.cell? (a.add (i*3+2))=some q.2.2/\Tb w anyBlock q.2.1 q.1.ps/\Sl w anyBlock q.1.a q.2.2/\q.1.n.size<=maxLen:=by
   intro i hi';have:=hel i hi';rw[ce,List.getElem?_eq_getElem (by omega)] at this;obtain⟨cs',h1,h2⟩:=Option.bind_eq_some_iff.1 this;obtain⟨v0,v1,v2,rfl,e0,e1,e2⟩:=cell_of_cells3 h1;obtain⟨xs,k,hk,hxy,_,hxl,hf⟩:=DataW.trod_struct he h2;have g0:=hf 0 f0 rfl;have g1:=hf 1 f1 rfl;have g2:=hf 2 f2 rfl;simp[o0,o1,o2,t0,t1,t2,c0,c1,c2] at g0 g1 g2;have hxl':xs.length=3:=(by simpa using hxl);rw[List.getElem?_eq_getElem (by omega)] at g0 g1 g2;obtain⟨s0,hs0,_,hsz⟩:=DataW.trod_string hst g0;obtain⟨vp,lp,hvp,hp⟩:=hP _ _ _ g1;obtain⟨v,l,hv,hs⟩:=hS _ _ _ g2;simp at hs0 hvp hv;subst hs0 hvp hv;rw[Go.Deep.add_add] at e0 e1 e2;exact⟨(⟨s0,lp,l⟩,v1,v2),by simpa using e0,by simpa using e1,by simpa using e2,hp,hs,hsz⟩
  obtain⟨q,hq⟩:=Go.Deep.choose_lt each;refine⟨_,(List.range len).map fun i=>(q i).1,rfl,some a,cap,by simp,by simpa using hl,hm,(fun h=>by cases h),fun hne=>?_⟩;have h0:0<len:=by
   have:=List.length_pos_iff.2 hne
   simpa using this
  obtain⟨b,off,spot⟩:=a;have hspot:spot=none:=(by simpa [Addr.add] using World.cell?_spot (hq 0 h0).1);subst hspot;refine⟨b,off,fun i=>(q i).2.1,fun i=>(q i).2.2,rfl,trivial,fun i h=>?_⟩;have hi':i<len:=(by simpa using h);obtain⟨x0,x1,x2,y1,y2,y3⟩:=hq i hi';simp only[Addr.add_lit] at x0 x1 x2;simp only[List.getElem_map,List.getElem_range];exact⟨⟨x0,x1,x2⟩,y1,y2,y3⟩
end
section
open Go.WideShapes Go.ChangeAt
variable {H:Type} {enc:TypeId × Value->H} {P:Program} {w:World} {held:Bool}
theorem open_agg2 {r:Reach} {b0 base:Nat} {spare:Nat->Bool} {t:TypeId} {f0 f1:Field} {v:Value} {d:DataW H} {p:List MemPlace} (hs:P.underlying t=some (.struct #[f0,f1]))
  (o0:f0.offset=0) (o1:f1.offset=1) (k0:P.cellsOf f0.type=1) (k1:P.cellsOf f1.type=1) (hC:P.cellsOf t=2)
  (hv:Value.okWide P w r b0 t v) (h:DataW.Trod enc P w base spare held t v d p) :
  ∃ (v0 v1:Value) (y0 y1:DataW H × List MemPlace) (n:Nat),v=.agg #[v0,v1]/\DataW.trod enc P w base spare held n f0.type [v0]=some y0/\DataW.trod enc P w base spare held n f1.type [v1]=some y1:=by
 obtain⟨cs,rfl,hsz⟩:=Go.WideShapes.okWide_struct hs hv;obtain⟨c0,c1,rfl⟩:∃ c0 c1,cs=#[c0,c1]:=by
  obtain⟨l⟩:=cs
  match l,hsz.trans hC with
  | [c0,c1],_=>exact⟨c0,c1,rfl⟩
 obtain⟨fuel,hf⟩:=h;obtain⟨xs,k,hk,hxy,_,hxl,hf⟩:=DataW.trod_struct hs hf;have g0:=hf 0 f0 rfl;have g1:=hf 1 f1 rfl;simp[o0,o1,k0,k1,Value.cells] at g0 g1;have hxl':xs.length=2:=by simpa using hxl
 rw[List.getElem?_eq_getElem (by omega)] at g0 g1;exact⟨c0,c1,_,_,_,rfl,g0,g1⟩
end
end Go.Proofs.YtkbijjkgfojchaaGreat
