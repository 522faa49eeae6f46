/- Rows of pairs of lists: the last taken off,some put behind. .. -/
import Derived.Test.YtkbijjkgfojchaaGreatQJoinX
namespace Go.Proofs.YtkbijjkgfojchaaGreat
set_option maxHeartbeats 4000000
open Go.RowKit
set_option maxRecDepth 8000
def prCells {T:Type}:List (Prr T)->List Value
 | []=>[]
 | q :: W=>q.u :: q.v :: prCells W
theorem prCells_length {T:Type} (W:List (Prr T)):(prCells W).length=W.length*2:=by
 induction W with
 | nil=>rfl
 | cons q W ih=>simp only[prCells,List.length_cons,ih];omega
theorem prCells_append {T:Type} (W V:List (Prr T)):prCells (W++V)=prCells W++prCells V:=by
 induction W with
 | nil=>rfl
 | cons q W ih=>simp only[List.cons_append,prCells,ih]
theorem prCells_one {T:Type} {V:List (Prr T)} (h:∀ q∈V,q.u.oneCell'=true/\q.v.oneCell'=true):∀ x∈prCells V,x.oneCell'=true:=by
 induction V with
 | nil=>simp[prCells]
 | cons q V ih =>
  intro x hx;simp only[prCells,List.mem_cons] at hx;rcases hx with rfl | rfl | hx
  ·exact(h q (by simp)).1
  ·exact(h q (by simp)).2
  ·exact ih (fun y hy=>h y (List.mem_cons_of_mem _ hy)) x hx
theorem cells_at {w:World} {b o:Nat} {v:Value} (h:w.cell? ⟨b,o,none⟩=some v):∃ c e f,w.heap[b]?=some (.cells c e f):=by
 unfold World.cell? at h;cases hh:w.heap[b]? with
 | none=>simp[hh] at h
 | some x=>cases x <;> simp[hh] at h <;> exact⟨_,_,_,rfl⟩
def OwnRX (w:World) (base:Nat) (v:Value) (W:List (Prr Ex)):Prop:=w.ownsRow base 151 2 v W.length (prCells W)
theorem OwnRX.len {w:World} {base:Nat} {v:Value} {W:List (Prr Ex)} (h:OwnRX w base v W):∃ ao cap,v=.slice ao W.length cap:=by
 rcases h.2 with⟨rfl,h0⟩ | ⟨g,cap,cur,rfl,-⟩
 ·exact⟨none,0,by rw[h0]⟩
 ·exact⟨_,cap,rfl⟩
theorem OwnRX.lt {w:World} {base:Nat} {v:Value} {W:List (Prr Ex)} (h:OwnRX w base v W) {k:Nat} (hk:v.ownBlock=some k):base<=k/\k<w.heap.size:=World.ownsRow.lt h k hk
theorem OwnRX.kept {w w':World} {base:Nat} {v:Value} {W:List (Prr Ex)} (h:OwnRX w base v W) (hk:∀ k,v.ownBlock=some k->w'.heap[k]?=w.heap[k]?):OwnRX w' base v W:=by
 refine⟨h.1,?_⟩;rcases h.2 with h0 | ⟨g,cap,cur,rfl,hb,hg,h1,h2,h3,h4⟩
 ·exact .inl h0
 ·exact .inr ⟨g,cap,cur,rfl,hb,(hk g rfl).trans hg,h1,h2,h3,h4⟩
theorem OwnRX.pop {w:World} {base:Nat} {v:Value} {W:List (Prr Ex)} {q:Prr Ex} (h:OwnRX w base v (W++[q])):∃ g cap,v=.slice (some ⟨g,0,none⟩) (W.length+1) cap/\W.length+1<=cap/\cap<=maxLen/\base<=g/\g<w.heap.size /\
  w.cell? ⟨g,W.length*2,none⟩=some q.u/\w.cell? ⟨g,W.length*2+1,none⟩=some q.v/\OwnRX w base (.slice (some ⟨g,0,none⟩) W.length cap) W:=by
 have hcs:=fun g hg=>World.ownsRow.cells h (g:=g) hg;have hp:(prCells (W++[q]))[W.length*2]?=some q.u/\(prCells (W++[q]))[W.length*2+1]?=some q.v:=by
  rw[prCells_append,<- prCells_length W];simp[prCells]
 rcases id h.2 with⟨-,h0⟩ | ⟨g,cap,cur,rfl,hb,hg,h1,h2,h3,h4⟩
 ·simp at h0
 ·have hlen:(W++[q]).length=W.length+1:=by simp
  have c0:=hcs g rfl _ _ hp.1;have c1:=hcs g rfl _ _ hp.2;simp only[Addr.add_lit,Nat.zero_add] at c0 c1;refine⟨g,cap,by rw[hlen],by rw[<- hlen];exact h1,h2,hb,(Array.getElem?_eq_some_iff.1 hg).1,c0,c1,prCells_length W,.inr ⟨g,cap,cur,rfl,hb,hg,by omega,h2,h3,?_⟩⟩;have h5:prCells W=(prCells (W++[q])).take (W.length*2):=by
   rw[prCells_append,List.take_append_of_le_length (by rw[prCells_length];omega),<- prCells_length W,List.take_length]
  rw[h5,<- h4,List.take_take,hlen];congr 1
  omega
theorem wp_append_rX {w:World} {o:Oper} {a:Act} {K:Act->World->Prop} {Q:Exit->Act->World->Prop} (s x:Operand)
  (ho:o.op=.call { callee:=.builtin .append,args:=#[s,x],argTypes:=#[152,152] })
  (base:Nat) (v:Value) (W V:List (Prr Ex)) (hs:a.eval s=v) (hown:OwnRX w base v W) (lb c:Nat) (hx:a.eval x=.slice (some ⟨lb,0,none⟩) V.length c)
  (hc:w.heap[lb]?=some (.cells (prCells V).toArray 151 (0,0))) (hone:∀ q∈V,q.u.oneCell'=true/\q.v.oneCell'=true) (hbase:base<=w.heap.size) (hlen:W.length+V.length<=2199023255552)
  (h:∀ v' w',OwnRX w' base v' (W++V)->w.grownBy w' v.ownBlock->(v'.ownBlock=v.ownBlock\/v'.ownBlock=some w.heap.size)->K (a.put o.dst v') w') :
  o.wp Tryz.prog a w K Q:=by
 obtain⟨i0,hi,hz0,hz1,hz2⟩:=info_parts (show(Tryz.prog.info? 151).map (fun i=>(i.zero,i.size,i.bytes))=some (some (.agg #[.slice none 0 0,.slice none 0 0]),2,48) by kernel_rfl);have hones:∀ q∈prCells V,q.oneCell'=true:=prCells_one hone;have hnews:∀ j q,(prCells V)[j]?=some q->w.cell? ((⟨lb,0,none⟩:Addr).add j)=some q:=by
  intro j q hq;rw[Addr.add_lit,Nat.zero_add,cell_of_row w lb j _ _ (0,0) hc]
  simpa using hq
 obtain⟨v',w',hr,hown',hgr,-,hv⟩:=run_append_own_at (P:=Tryz.prog) w base 152 o.type 151 i0 _ 2 48 (by kernel_rfl) hi hz0 hz1 hz2 rfl (by decide) v W.length (prCells W) hown ⟨lb,0,none⟩ V.length c (prCells V) (prCells_length V) hnews hones (by unfold maxLen;omega) (by omega) hbase;unfold Oper.wp execOp;simp only[ho,resolve,invoke,builtin,Sem.run_bind,Sem.run_pure,Result.andThen_ok,List.map_toArray,List.map_cons,List.map_nil,hs,hx,hr];refine h v' w' ?_ hgr hv;show w'.ownsRow base _ 2 v' (W++V).length (prCells (W++V))
 rw[prCells_append,List.length_append];exact hown'
theorem wpList_append_rX {w:World} {ops:Array Oper} {rest:List Oper} {o:Oper} {a:Act} {Q:Exit->Act->World->Prop} (hgd:o.guard=none) (s x:Operand)
  (ho:o.op=.call { callee:=.builtin .append,args:=#[s,x],argTypes:=#[152,152] })
  (base:Nat) (v:Value) (W V:List (Prr Ex)) (hs:a.eval s=v) (hown:OwnRX w base v W) (lb c:Nat) (hx:a.eval x=.slice (some ⟨lb,0,none⟩) V.length c)
  (hc:w.heap[lb]?=some (.cells (prCells V).toArray 151 (0,0))) (hone:∀ q∈V,q.u.oneCell'=true/\q.v.oneCell'=true) (hbase:base<=w.heap.size) (hlen:W.length+V.length<=2199023255552)
  (h:∀ v' w',OwnRX w' base v' (W++V)->w.grownBy w' v.ownBlock->(v'.ownBlock=v.ownBlock\/v'.ownBlock=some w.heap.size)->wpList Tryz.prog ops Q rest (a.put o.dst v') w') :
  wpList Tryz.prog ops Q (o :: rest) a w:=by
 refine wpList_plain hgd fun K hK=>?_;exact wp_append_rX s x ho base v W V hs hown lb c hx hc hone hbase hlen fun v' w' h1 h2 h3=>hK _ _ (h v' w' h1 h2 h3)
theorem El.det {w:World} {B:Nat->Prop} {l:List Ex} {v:Value} (h:El w B l v):∀ {B':Nat->Prop} {l':List Ex} {v':Value},El w B' l' v'->(∃ ao n c c',v=.slice ao n c/\v'=.slice ao n c')->l=l':=by
 induction h with
 | empty ao cap hm hn =>
  intro B' l' v' h' ⟨ao',n,c,c',e1,e2⟩;obtain⟨a1,a2,rfl,-⟩:=h'.len;simp at e1 e2;have:l'.length=0:=(by omega);exact(List.length_eq_zero_iff.1 this).symm
 | full l b off cap V hb hl hc hm hs hcell hsub ih =>
  intro B' l' v' h' ⟨ao',n,c,c',e1,e2⟩;obtain⟨a1,a2,rfl,-⟩:=h'.len;simp at e1 e2;obtain⟨rfl,rfl,rfl⟩:=e1;obtain⟨rfl,hlen,rfl⟩:=e2;have hl':l'≠[]:=(by rintro rfl;simp at hlen;exact hl (by simpa using hlen.symm));obtain⟨b',off',V',he,hel⟩:=h'.elems hl';simp at he;obtain⟨rfl,rfl⟩:=he;refine List.ext_getElem hlen.symm fun i h1 h2=>?_;obtain⟨x,hx,-⟩:=hel i h2;have y:=hcell i h1;have e0:=y.1.symm.trans x.1;have e1:=y.2.1.symm.trans x.2.1;have e2:=y.2.2.1.symm.trans x.2.2.1;have e3:=y.2.2.2.symm.trans x.2.2.2;simp at e0 e1 e2 e3;obtain⟨ao2,c2,ev,-⟩:=(hsub i h1).len;have e4:l[i].l=l'[i].l:=ih i h1 hx ⟨ao2,_,c2,c2,ev,by rw[<- e3];exact ev⟩;rw[<- Ex.eta l[i],<- Ex.eta l'[i],e0,e1,e2,e4]
open Classical in
noncomputable def treeX (w:World) (p:Plc):List Ex :=
 if h:∃ l,l≠[]/\∃ B c,El w B l (.slice (some p.a) l.length c)/\(l.length:Int)=p.n then Classical.choose h else []
theorem treeX_eq {w:World} {B:Nat->Prop} {l:List Ex} {b off c n:Nat} (h:El w B l (.slice (some ⟨b,off,none⟩) n c)) (hl:l≠[]):treeX w ⟨⟨b,off,none⟩,n⟩=l:=by
 obtain⟨_,_,e,-⟩:=h.len;simp at e;obtain⟨-,rfl,-⟩:=e;have hex:∃ l',l'≠[]/\∃ B c,El w B l' (.slice (some (⟨⟨b,off,none⟩,l.length⟩:Plc).a) l'.length c)/\(l'.length:Int)=(⟨⟨b,off,none⟩,l.length⟩:Plc).n:=⟨l,hl,B,c,h,rfl⟩;unfold treeX;rw[dif_pos hex];obtain⟨-,B',c',h',hn⟩:=Classical.choose_spec hex;have hn1:((Classical.choose hex).length:Int)=(l.length:Int):=hn;have hn':(Classical.choose hex).length=l.length:=by omega
 refine(h.det h' ⟨some ⟨b,off,none⟩,l.length,c,c',rfl,?_⟩).symm;rw[hn']
theorem El.cells {w:World} {B:Nat->Prop} {l:List Ex} {v:Value} (h:El w B l v):El w (fun b=>B b/\∃ c e f,w.heap[b]?=some (.cells c e f)) l v:=by
 induction h with
 | empty ao cap hm hn=>exact .empty ao cap hm hn
 | full l b off cap V hb hl hc hm hs hcell hsub ih =>
  exact .full l b off cap V ⟨hb,cells_at (hcell 0 (List.length_pos_iff.2 hl)).1⟩ hl hc hm hs hcell ih
set_option linter.unusedSimpArgs false
theorem three_alloc (W:World) (n:Nat) (hn:W.heap.size=n) (o1 o2 o3:Obj):(((W.alloc o1).alloc o2).alloc o3).heap[n]?=some o1/\(((W.alloc o1).alloc o2).alloc o3).heap[n+1]?=some o2/\(((W.alloc o1).alloc o2).alloc o3).heap[n+1+1]?=some o3 /\
  Below n W (((W.alloc o1).alloc o2).alloc o3)/\(((W.alloc o1).alloc o2).alloc o3).heap.size=n+1+1+1:=by
 subst hn;have s1:(W.alloc o1).heap.size=W.heap.size+1:=by simp
 have s2:((W.alloc o1).alloc o2).heap.size=W.heap.size+1+1:=by simp
 refine⟨?_,?_,?_,(((Below.refl _ _).alloc (Nat.le_refl _) _).alloc (by simp) _).alloc (by simp;omega) _,by simp⟩
 ·rw[(World.grownBy_alloc _ o3 none).block _ (by rw[s2];omega) (by simp),(World.grownBy_alloc _ o2 none).block _ (by rw[s1];omega) (by simp)]
  exact(MapKept.heap_alloc W o1).1
 ·rw[(World.grownBy_alloc _ o3 none).block _ (by rw[s2];omega) (by simp),<- s1]
  exact(MapKept.heap_alloc _ o2).1
 ·rw[<- s2]
  exact(MapKept.heap_alloc _ o3).1
def hdB (x y:Ex):Bool:=x.k==y.k&&(x.n==y.n&&x.s.toList==y.s.toList)
theorem hdB_iff {x y:Ex}:hdB x y=true↔labX.hd x y:=by
 unfold hdB labX;simp only[Bool.and_eq_true,beq_iff_eq];exact⟨fun h=>⟨h.1,h.2.1,txt_same h.2.2⟩,fun h=>⟨h.1,h.2.1,by rw[h.2.2]⟩⟩
theorem withinX_any (x y:Ex) (ao:Option Addr) (n c:Nat) (ao':Option Addr) (n' c':Nat) (w:World) :
  Calls Tryz.prog 152 #[xx x.k x.n x.s (.slice ao n c),xx y.k y.n y.s (.slice ao' n' c')] w fun e w' =>
   ∃ mb,e=.returned (.tuple #[.slice (some ⟨mb,0,none⟩) 1 1,.bool (hdB x y)])/\w'.heap[mb]?=some (.cells #[.slice ao n c,.slice ao' n' c'] 151 (0,0))/\w.heap.size<=mb/\Below w.heap.size w w':=by
 have HR:Hid (∀ r:Bool,(x.k==y.k&&(x.n==y.n&&x.s.toList==y.s.toList))=r->hdB x y=r):=fun r h=>h;obtain⟨R,hR⟩:∃ R,hdB x y=R:=⟨_,rfl⟩;rw[hR] at HR;rw[hR];clear hR;obtain⟨k,hk⟩:∃ k,x.k=k:=⟨_,rfl⟩;obtain⟨m,hn⟩:∃ k,x.n=k:=⟨_,rfl⟩;obtain⟨s,hs⟩:∃ k,x.s=k:=⟨_,rfl⟩;obtain⟨k',hk'⟩:∃ k,y.k=k:=⟨_,rfl⟩;obtain⟨m',hn'⟩:∃ k,y.n=k:=⟨_,rfl⟩;obtain⟨s',hs'⟩:∃ k,y.s=k:=⟨_,rfl⟩;rw[hk,hn,hs,hk',hn',hs'] at HR;rw[hk,hn,hs,hk',hn',hs'];clear hk hn hs hk' hn' hs';have B0:Hid (Below w.heap.size w ((w.alloc (.cells #[.int .i64 k,.int .i64 m,.string s,.slice ao n c] 54)).alloc (.cells #[.int .i64 k',.int .i64 m',.string s',.slice ao' n' c'] 54))):=((Below.refl _ _).alloc (Nat.le_refl _) _).alloc (by simp) _;have X0:Hid (((w.alloc (.cells #[.int .i64 k,.int .i64 m,.string s,.slice ao n c] 54)).alloc (.cells #[.int .i64 k',.int .i64 m',.string s',.slice ao' n' c'] 54)).heap[w.heap.size]?=some (.cells #[.int .i64 k,.int .i64 m,.string s,.slice ao n c] 54 (0,0))):=((World.grownBy_alloc _ _ none).block _ (by simp) (by simp)).trans (MapKept.heap_alloc w _).1;have Y0:Hid (((w.alloc (.cells #[.int .i64 k,.int .i64 m,.string s,.slice ao n c] 54)).alloc (.cells #[.int .i64 k',.int .i64 m',.string s',.slice ao' n' c'] 54)).heap[w.heap.size+1]?=some (.cells #[.int .i64 k',.int .i64 m',.string s',.slice ao' n' c'] 54 (0,0))):=by
  unfold Hid
  simpa using (MapKept.heap_alloc (w.alloc (.cells #[.int .i64 k,.int .i64 m,.string s,.slice ao n c] 54)) (.cells #[.int .i64 k',.int .i64 m',.string s',.slice ao' n' c'] 54)).1
 go_enter Tryz.func152,Tryz.ntmps152
 go_wp2_with fail
 generalize (w.alloc (.cells #[.int .i64 k,.int .i64 m,.string s,.slice ao n c] 54)).alloc (.cells #[.int .i64 k',.int .i64 m',.string s',.slice ao' n' c'] 54)=w0 at *;have HX:Hid (∀ w',Below w0.heap.size w0 w'->∀ o,w'.cell? ⟨w.heap.size,o,none⟩=#[Value.int .i64 k,.int .i64 m,.string s,.slice ao n c][o]?):=fun w' hb o=>cell_of_row w' _ o _ _ (0,0) ((hb.block _ (Array.getElem?_eq_some_iff.1 X0.out).1).trans X0.out);have HY:Hid (∀ w',Below w0.heap.size w0 w'->∀ o,w'.cell? ⟨w.heap.size+1,o,none⟩=#[Value.int .i64 k',.int .i64 m',.string s',.slice ao' n' c'][o]?):=fun w' hb o=>cell_of_row w' _ o _ _ (0,0) ((hb.block _ (Array.getElem?_eq_some_iff.1 Y0.out).1).trans Y0.out);have S0:Hid (Below w0.heap.size w0 w0.drew):=Below.drewSelf _ _ 1;clear X0 Y0;refine wp_region_held_drew (S:=Below w0.heap.size w0) (by kernel_rfl) S0.out (fun _=>?_);refine takeHD (i:=0) (v:=.pointer (some ⟨w.heap.size,3,none⟩)) (some 6) rfl rfl (by kernel_rfl) (by kernel_rfl) (by kernel_rfl) (fun _ _ _ h=>h) (Or.inl ⟨by kernel_rfl,fun w' hw=>?_⟩) S0.out ?_
 ·go_simp
 simp only[Act.put,List.setIfInBounds_toArray];refine takeHD (i:=1) (v:=.slice ao n c) (some 7) rfl rfl (by kernel_rfl) (by kernel_rfl) (by kernel_rfl) (fun _ _ _ h=>h) (Or.inl ⟨by kernel_rfl,fun w' hw=>?_⟩) S0.out ?_
 ·have hq:=HX.out w' hw
  go_simp
 simp only[Act.put,List.setIfInBounds_toArray];refine takeHD (i:=2) (v:=.pointer (some ⟨w.heap.size+1,3,none⟩)) (some 8) rfl rfl (by kernel_rfl) (by kernel_rfl) (by kernel_rfl) (fun _ _ _ h=>h) (Or.inl ⟨by kernel_rfl,fun w' hw=>?_⟩) S0.out ?_
 ·go_simp
 simp only[Act.put,List.setIfInBounds_toArray];refine takeHD (i:=3) (v:=.slice ao' n' c') (some 9) rfl rfl (by kernel_rfl) (by kernel_rfl) (by kernel_rfl) (fun _ _ _ h=>h) (Or.inl ⟨by kernel_rfl,fun w' hw=>?_⟩) S0.out ?_
 ·have hq:=HY.out w' hw
  go_simp
 simp only[Act.put,List.setIfInBounds_toArray];refine takeHD (i:=4) (v:=.agg #[.slice ao n c,.slice ao' n' c']) (some 10) rfl rfl (by kernel_rfl) (by kernel_rfl) (by kernel_rfl) (fun _ _ _ h=>h) (Or.inl ⟨by kernel_rfl,fun w' hw=>?_⟩) S0.out ?_
 ·go_simp
 simp only[Act.put,List.setIfInBounds_toArray];refine takeHD (i:=6) (v:=.pointer (some ⟨w.heap.size,0,none⟩)) (some 12) rfl rfl (by kernel_rfl) (by kernel_rfl) (by kernel_rfl) (fun _ _ _ h=>h) (Or.inl ⟨by kernel_rfl,fun w' hw=>?_⟩) S0.out ?_
 ·go_simp
 simp only[Act.put,List.setIfInBounds_toArray];refine takeHD (i:=7) (v:=.int .i64 k) (some 13) rfl rfl (by kernel_rfl) (by kernel_rfl) (by kernel_rfl) (fun _ _ _ h=>h) (Or.inl ⟨by kernel_rfl,fun w' hw=>?_⟩) S0.out ?_
 ·have hq:=HX.out w' hw
  go_simp
 simp only[Act.put,List.setIfInBounds_toArray];refine takeHD (i:=8) (v:=.pointer (some ⟨w.heap.size+1,0,none⟩)) (some 14) rfl rfl (by kernel_rfl) (by kernel_rfl) (by kernel_rfl) (fun _ _ _ h=>h) (Or.inl ⟨by kernel_rfl,fun w' hw=>?_⟩) S0.out ?_
 ·go_simp
 simp only[Act.put,List.setIfInBounds_toArray];refine takeHD (i:=9) (v:=.int .i64 k') (some 15) rfl rfl (by kernel_rfl) (by kernel_rfl) (by kernel_rfl) (fun _ _ _ h=>h) (Or.inl ⟨by kernel_rfl,fun w' hw=>?_⟩) S0.out ?_
 ·have hq:=HY.out w' hw
  go_simp
 simp only[Act.put,List.setIfInBounds_toArray];refine takeHD (i:=10) (v:=.bool (k==k')) (some 16) rfl rfl (by kernel_rfl) (by kernel_rfl) (by kernel_rfl) (fun _ _ _ h=>h) (Or.inl ⟨by kernel_rfl,fun w' hw=>?_⟩) S0.out ?_
 ·go_simp
 simp only[Act.put,List.setIfInBounds_toArray];refine takeHD (i:=11) (v:=.bool (k==k')) (some 17) rfl rfl (by kernel_rfl) (by kernel_rfl) (by kernel_rfl) (fun _ _ _ h=>h) (Or.inl ⟨by kernel_rfl,fun w' hw=>?_⟩) S0.out ?_
 ·go_simp
 simp only[Act.put,List.setIfInBounds_toArray];by_cases hkk:k=k'
 case neg =>
  have hb0:(k==k')=false:=(by simpa using hkk);simp only[hb0];refine takeHD (i:=12) (v:=undef) (some 18) rfl rfl (by kernel_rfl) (by kernel_rfl) (by kernel_rfl) (fun _ _ _ h=>h) (Or.inr ⟨by kernel_rfl,rfl⟩) S0.out ?_;simp only[Act.put,List.setIfInBounds_toArray];refine takeHD (i:=13) (v:=undef) (some 19) rfl rfl (by kernel_rfl) (by kernel_rfl) (by kernel_rfl) (fun _ _ _ h=>h) (Or.inr ⟨by kernel_rfl,rfl⟩) S0.out ?_;simp only[Act.put,List.setIfInBounds_toArray];refine takeHD (i:=14) (v:=undef) (some 20) rfl rfl (by kernel_rfl) (by kernel_rfl) (by kernel_rfl) (fun _ _ _ h=>h) (Or.inr ⟨by kernel_rfl,rfl⟩) S0.out ?_;simp only[Act.put,List.setIfInBounds_toArray];refine takeHD (i:=15) (v:=undef) (some 21) rfl rfl (by kernel_rfl) (by kernel_rfl) (by kernel_rfl) (fun _ _ _ h=>h) (Or.inr ⟨by kernel_rfl,rfl⟩) S0.out ?_;simp only[Act.put,List.setIfInBounds_toArray];refine takeHD (i:=16) (v:=undef) (some 22) rfl rfl (by kernel_rfl) (by kernel_rfl) (by kernel_rfl) (fun _ _ _ h=>h) (Or.inr ⟨by kernel_rfl,rfl⟩) S0.out ?_;simp only[Act.put,List.setIfInBounds_toArray];refine takeHD (i:=17) (v:=.bool false) (some 23) rfl rfl (by kernel_rfl) (by kernel_rfl) (by kernel_rfl) (fun _ _ _ h=>h) (Or.inl ⟨by kernel_rfl,fun w' hw=>?_⟩) S0.out ?_
  ·go_simp
  simp only[Act.put,List.setIfInBounds_toArray];refine takeHD (i:=18) (v:=.bool false) (some 24) rfl rfl (by kernel_rfl) (by kernel_rfl) (by kernel_rfl) (fun _ _ _ h=>h) (Or.inl ⟨by kernel_rfl,fun w' hw=>?_⟩) S0.out ?_
  ·go_simp
  simp only[Act.put,List.setIfInBounds_toArray];refine takeHD (i:=19) (v:=undef) (some 25) rfl rfl (by kernel_rfl) (by kernel_rfl) (by kernel_rfl) (fun _ _ _ h=>h) (Or.inr ⟨by kernel_rfl,rfl⟩) S0.out ?_;simp only[Act.put,List.setIfInBounds_toArray];refine takeHD (i:=20) (v:=undef) (some 26) rfl rfl (by kernel_rfl) (by kernel_rfl) (by kernel_rfl) (fun _ _ _ h=>h) (Or.inr ⟨by kernel_rfl,rfl⟩) S0.out ?_;simp only[Act.put,List.setIfInBounds_toArray];refine takeHD (i:=21) (v:=undef) (some 27) rfl rfl (by kernel_rfl) (by kernel_rfl) (by kernel_rfl) (fun _ _ _ h=>h) (Or.inr ⟨by kernel_rfl,rfl⟩) S0.out ?_;simp only[Act.put,List.setIfInBounds_toArray];refine takeHD (i:=22) (v:=undef) (some 28) rfl rfl (by kernel_rfl) (by kernel_rfl) (by kernel_rfl) (fun _ _ _ h=>h) (Or.inr ⟨by kernel_rfl,rfl⟩) S0.out ?_;simp only[Act.put,List.setIfInBounds_toArray];refine takeHD (i:=23) (v:=undef) (some 29) rfl rfl (by kernel_rfl) (by kernel_rfl) (by kernel_rfl) (fun _ _ _ h=>h) (Or.inr ⟨by kernel_rfl,rfl⟩) S0.out ?_;simp only[Act.put,List.setIfInBounds_toArray];refine takeHD (i:=24) (v:=.bool false) (some 30) rfl rfl (by kernel_rfl) (by kernel_rfl) (by kernel_rfl) (fun _ _ _ h=>h) (Or.inl ⟨by kernel_rfl,fun w' hw=>?_⟩) S0.out ?_
  ·go_simp
  simp only[Act.put,List.setIfInBounds_toArray];refine wpAnyH_ready (rs:=[5]) (by kernel_rfl) (by simp) ?_;refine AllReadyH.cons rfl (fun K hK=>?_) AllReadyH.nil;rw[if_pos (by kernel_rfl)];go_wp2_with fail
  have T0:Hid (Below w0.heap.size w0 (w0.drew.alloc (.cells #[.slice ao n c,.slice ao' n' c'] 151))):=S0.out.alloc S0.out.size _;refine hK.out _ _ T0.out (fun _=>?_);clear hK K;refine takeHD (i:=25) (v:=.slice (some ⟨w0.heap.size,0,none⟩) 1 1) (some 4) rfl rfl (by kernel_rfl) (by kernel_rfl) (by kernel_rfl) (fun _ _ _ h=>h) (Or.inl ⟨by kernel_rfl,fun w' hw=>?_⟩) T0.out ?_
  ·go_simp
  simp only[Act.put,List.setIfInBounds_toArray];refine takeHD (i:=26) (v:=.bool false) (some 5) rfl rfl (by kernel_rfl) (by kernel_rfl) (by kernel_rfl) (fun _ _ _ h=>h) (Or.inl ⟨by kernel_rfl,fun w' hw=>?_⟩) T0.out ?_
  ·go_simp
  simp only[Act.put,List.setIfInBounds_toArray];refine wpAnyH_done (by kernel_rfl) ?_ _;clear HX HY;go_wp2;go_ret2
  have hr:=HR.out false (by simp[hb0]);subst hr;exact⟨w0.heap.size,rfl,(MapKept.heap_alloc w0 _).1,B0.out.size,B0.out.trans (T0.out.mono B0.out.size)⟩
 have hb0:(k==k')=true:=by simpa using hkk
 simp only[hb0];refine takeHD (i:=12) (v:=.pointer (some ⟨w.heap.size,1,none⟩)) (some 18) rfl rfl (by kernel_rfl) (by kernel_rfl) (by kernel_rfl) (fun _ _ _ h=>h) (Or.inl ⟨by kernel_rfl,fun w' hw=>?_⟩) S0.out ?_
 ·go_simp
 simp only[Act.put,List.setIfInBounds_toArray];refine takeHD (i:=13) (v:=.int .i64 m) (some 19) rfl rfl (by kernel_rfl) (by kernel_rfl) (by kernel_rfl) (fun _ _ _ h=>h) (Or.inl ⟨by kernel_rfl,fun w' hw=>?_⟩) S0.out ?_
 ·have hq:=HX.out w' hw
  go_simp
 simp only[Act.put,List.setIfInBounds_toArray];refine takeHD (i:=14) (v:=.pointer (some ⟨w.heap.size+1,1,none⟩)) (some 20) rfl rfl (by kernel_rfl) (by kernel_rfl) (by kernel_rfl) (fun _ _ _ h=>h) (Or.inl ⟨by kernel_rfl,fun w' hw=>?_⟩) S0.out ?_
 ·go_simp
 simp only[Act.put,List.setIfInBounds_toArray];refine takeHD (i:=15) (v:=.int .i64 m') (some 21) rfl rfl (by kernel_rfl) (by kernel_rfl) (by kernel_rfl) (fun _ _ _ h=>h) (Or.inl ⟨by kernel_rfl,fun w' hw=>?_⟩) S0.out ?_
 ·have hq:=HY.out w' hw
  go_simp
 simp only[Act.put,List.setIfInBounds_toArray];refine takeHD (i:=16) (v:=.bool (m==m')) (some 22) rfl rfl (by kernel_rfl) (by kernel_rfl) (by kernel_rfl) (fun _ _ _ h=>h) (Or.inl ⟨by kernel_rfl,fun w' hw=>?_⟩) S0.out ?_
 ·go_simp
 simp only[Act.put,List.setIfInBounds_toArray];refine takeHD (i:=17) (v:=.bool (m==m')) (some 23) rfl rfl (by kernel_rfl) (by kernel_rfl) (by kernel_rfl) (fun _ _ _ h=>h) (Or.inl ⟨by kernel_rfl,fun w' hw=>?_⟩) S0.out ?_
 ·go_simp
 simp only[Act.put,List.setIfInBounds_toArray];refine takeHD (i:=18) (v:=.bool (m==m')) (some 24) rfl rfl (by kernel_rfl) (by kernel_rfl) (by kernel_rfl) (fun _ _ _ h=>h) (Or.inl ⟨by kernel_rfl,fun w' hw=>?_⟩) S0.out ?_
 ·go_simp
 simp only[Act.put,List.setIfInBounds_toArray];by_cases hnn:m=m'
 case neg =>
  have hb1:(m==m')=false:=(by simpa using hnn);simp only[hb1];refine takeHD (i:=19) (v:=undef) (some 25) rfl rfl (by kernel_rfl) (by kernel_rfl) (by kernel_rfl) (fun _ _ _ h=>h) (Or.inr ⟨by kernel_rfl,rfl⟩) S0.out ?_;simp only[Act.put,List.setIfInBounds_toArray];refine takeHD (i:=20) (v:=undef) (some 26) rfl rfl (by kernel_rfl) (by kernel_rfl) (by kernel_rfl) (fun _ _ _ h=>h) (Or.inr ⟨by kernel_rfl,rfl⟩) S0.out ?_;simp only[Act.put,List.setIfInBounds_toArray];refine takeHD (i:=21) (v:=undef) (some 27) rfl rfl (by kernel_rfl) (by kernel_rfl) (by kernel_rfl) (fun _ _ _ h=>h) (Or.inr ⟨by kernel_rfl,rfl⟩) S0.out ?_;simp only[Act.put,List.setIfInBounds_toArray];refine takeHD (i:=22) (v:=undef) (some 28) rfl rfl (by kernel_rfl) (by kernel_rfl) (by kernel_rfl) (fun _ _ _ h=>h) (Or.inr ⟨by kernel_rfl,rfl⟩) S0.out ?_;simp only[Act.put,List.setIfInBounds_toArray];refine takeHD (i:=23) (v:=undef) (some 29) rfl rfl (by kernel_rfl) (by kernel_rfl) (by kernel_rfl) (fun _ _ _ h=>h) (Or.inr ⟨by kernel_rfl,rfl⟩) S0.out ?_;simp only[Act.put,List.setIfInBounds_toArray];refine takeHD (i:=24) (v:=.bool false) (some 30) rfl rfl (by kernel_rfl) (by kernel_rfl) (by kernel_rfl) (fun _ _ _ h=>h) (Or.inl ⟨by kernel_rfl,fun w' hw=>?_⟩) S0.out ?_
  ·go_simp
  simp only[Act.put,List.setIfInBounds_toArray];refine wpAnyH_ready (rs:=[5]) (by kernel_rfl) (by simp) ?_;refine AllReadyH.cons rfl (fun K hK=>?_) AllReadyH.nil;rw[if_pos (by kernel_rfl)];go_wp2_with fail
  have T0:Hid (Below w0.heap.size w0 (w0.drew.alloc (.cells #[.slice ao n c,.slice ao' n' c'] 151))):=S0.out.alloc S0.out.size _;refine hK.out _ _ T0.out (fun _=>?_);clear hK K;refine takeHD (i:=25) (v:=.slice (some ⟨w0.heap.size,0,none⟩) 1 1) (some 4) rfl rfl (by kernel_rfl) (by kernel_rfl) (by kernel_rfl) (fun _ _ _ h=>h) (Or.inl ⟨by kernel_rfl,fun w' hw=>?_⟩) T0.out ?_
  ·go_simp
  simp only[Act.put,List.setIfInBounds_toArray];refine takeHD (i:=26) (v:=.bool false) (some 5) rfl rfl (by kernel_rfl) (by kernel_rfl) (by kernel_rfl) (fun _ _ _ h=>h) (Or.inl ⟨by kernel_rfl,fun w' hw=>?_⟩) T0.out ?_
  ·go_simp
  simp only[Act.put,List.setIfInBounds_toArray];refine wpAnyH_done (by kernel_rfl) ?_ _;clear HX HY;go_wp2;go_ret2
  have hr:=HR.out false (by simp[hb0,hb1]);subst hr;exact⟨w0.heap.size,rfl,(MapKept.heap_alloc w0 _).1,B0.out.size,B0.out.trans (T0.out.mono B0.out.size)⟩
 have hb1:(m==m')=true:=by simpa using hnn
 simp only[hb1];refine takeHD (i:=19) (v:=.pointer (some ⟨w.heap.size,2,none⟩)) (some 25) rfl rfl (by kernel_rfl) (by kernel_rfl) (by kernel_rfl) (fun _ _ _ h=>h) (Or.inl ⟨by kernel_rfl,fun w' hw=>?_⟩) S0.out ?_
 ·go_simp
 simp only[Act.put,List.setIfInBounds_toArray];refine takeHD (i:=20) (v:=.string s) (some 26) rfl rfl (by kernel_rfl) (by kernel_rfl) (by kernel_rfl) (fun _ _ _ h=>h) (Or.inl ⟨by kernel_rfl,fun w' hw=>?_⟩) S0.out ?_
 ·have hq:=HX.out w' hw
  go_simp
 simp only[Act.put,List.setIfInBounds_toArray];refine takeHD (i:=21) (v:=.pointer (some ⟨w.heap.size+1,2,none⟩)) (some 27) rfl rfl (by kernel_rfl) (by kernel_rfl) (by kernel_rfl) (fun _ _ _ h=>h) (Or.inl ⟨by kernel_rfl,fun w' hw=>?_⟩) S0.out ?_
 ·go_simp
 simp only[Act.put,List.setIfInBounds_toArray];refine takeHD (i:=22) (v:=.string s') (some 28) rfl rfl (by kernel_rfl) (by kernel_rfl) (by kernel_rfl) (fun _ _ _ h=>h) (Or.inl ⟨by kernel_rfl,fun w' hw=>?_⟩) S0.out ?_
 ·have hq:=HY.out w' hw
  go_simp
 simp only[Act.put,List.setIfInBounds_toArray];refine takeHD (i:=23) (v:=.bool (s.toList==s'.toList)) (some 29) rfl rfl (by kernel_rfl) (by kernel_rfl) (by kernel_rfl) (fun _ _ _ h=>h) (Or.inl ⟨by kernel_rfl,fun w' hw=>?_⟩) S0.out ?_
 ·go_simp
 simp only[Act.put,List.setIfInBounds_toArray];refine takeHD (i:=24) (v:=.bool (s.toList==s'.toList)) (some 30) rfl rfl (by kernel_rfl) (by kernel_rfl) (by kernel_rfl) (fun _ _ _ h=>h) (Or.inl ⟨by kernel_rfl,fun w' hw=>?_⟩) S0.out ?_
 ·go_simp
 simp only[Act.put,List.setIfInBounds_toArray];refine wpAnyH_ready (rs:=[5]) (by kernel_rfl) (by simp) ?_;refine AllReadyH.cons rfl (fun K hK=>?_) AllReadyH.nil;rw[if_pos (by kernel_rfl)];go_wp2_with fail
 have T0:Hid (Below w0.heap.size w0 (w0.drew.alloc (.cells #[.slice ao n c,.slice ao' n' c'] 151))):=S0.out.alloc S0.out.size _;refine hK.out _ _ T0.out (fun _=>?_);clear hK K;refine takeHD (i:=25) (v:=.slice (some ⟨w0.heap.size,0,none⟩) 1 1) (some 4) rfl rfl (by kernel_rfl) (by kernel_rfl) (by kernel_rfl) (fun _ _ _ h=>h) (Or.inl ⟨by kernel_rfl,fun w' hw=>?_⟩) T0.out ?_
 ·go_simp
 simp only[Act.put,List.setIfInBounds_toArray];refine takeHD (i:=26) (v:=.bool (s.toList==s'.toList)) (some 5) rfl rfl (by kernel_rfl) (by kernel_rfl) (by kernel_rfl) (fun _ _ _ h=>h) (Or.inl ⟨by kernel_rfl,fun w' hw=>?_⟩) T0.out ?_
 ·go_simp
 simp only[Act.put,List.setIfInBounds_toArray];refine wpAnyH_done (by kernel_rfl) ?_ _;clear HX HY;go_wp2;go_ret2
 have hr:=HR.out (s.toList==s'.toList) (by simp[hb0,hb1]);subst hr;exact⟨w0.heap.size,rfl,(MapKept.heap_alloc w0 _).1,B0.out.size,B0.out.trans (T0.out.mono B0.out.size)⟩
end Go.Proofs.YtkbijjkgfojchaaGreat
