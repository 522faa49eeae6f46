/- The text of a regular expression,as a function on trees. .. -/
import Derived.Test.YtkbijjkgfojchaaGreatQRun4
import Derived.Shelf.Small.Strs
import Derived.Test.YtkbijjkgfojchaaGreatQRun2
import Derived.Lib.IndexLaws
namespace Go.Proofs.YtkbijjkgfojchaaGreat
open Go.RowKit
theorem strOf_txt (s:ByteArray):strOf (txt s)=s:=by
 apply ByteArray.ext
 unfold strOf txt;apply Array.toList_inj.1
 simp only[List.map_map]
 conv=>rhs;rw[<- List.map_id s.data.toList]
 apply List.map_congr_left
 intro b _;simp
theorem txt_strOf {l:List Int} (h:byteList l):txt (strOf l)=l:=by
 unfold strOf txt;simp only[List.map_map]
 conv=>rhs;rw[<- List.map_id l]
 apply List.map_congr_left
 intro z hz;have:=h z hz
 simpa using u8_back z this.1 this.2
theorem strOf_append (a b:List Int):strOf a++strOf b=strOf (a++b):=by
 apply ByteArray.ext
 rw[ByteArray.data_append];simp[strOf]
def markOf (k:Int):Int:=if k=6 then 42 else if k=7 then 43 else 63
mutual
def Tr.tl:Tr->List Int
 | .node k s l=>if k=1 then txt s else if k=2 then [46] else if k=3 then 91 :: (txt s++[93]) else if k=4 then tlC l else if k=5 then tlA true l
  else if k=6\/k=7\/k=8 then tlO l++[markOf k] else if k=10 then [94] else if k=11 then [36] else [40,41]
def tlC:List Tr->List Int
 | []=>[]
 | t :: r=>(if t.k=5 then 40 :: (t.tl++[41]) else t.tl)++tlC r
def tlA (first:Bool):List Tr->List Int
 | []=>[]
 | t :: r=>(if first=true then [] else [124])++(t.tl++tlA false r)
def tlO:List Tr->List Int
 | []=>[]
 | t :: _=>if t.k=4\/t.k=5 then 40 :: (t.tl++[41]) else t.tl
end
def pcC (t:Tr):List Int:=if t.k=5 then 40 :: (t.tl++[41]) else t.tl
def pcO (t:Tr):List Int:=if t.k=4\/t.k=5 then 40 :: (t.tl++[41]) else t.tl
theorem tl_eq (t:Tr):t.tl=if t.k=1 then txt t.s else if t.k=2 then [46] else if t.k=3 then 91 :: (txt t.s++[93]) else if t.k=4 then tlC t.l else if t.k=5 then tlA true t.l
  else if t.k=6\/t.k=7\/t.k=8 then tlO t.l++[markOf t.k] else if t.k=10 then [94] else if t.k=11 then [36] else [40,41]:=by
 cases t;rw[Tr.tl];rfl
theorem tlC_cons (t:Tr) (r:List Tr):tlC (t :: r)=pcC t++tlC r:=by rw[tlC];rfl
theorem tlO_cons (t:Tr) (r:List Tr):tlO (t :: r)=pcO t:=by rw[tlO];rfl
theorem tl1 {t:Tr} (h:t.k=1):t.tl=txt t.s:=by rw[tl_eq,if_pos h]
theorem tl2 {t:Tr} (h:t.k=2):t.tl=[46]:=by rw[tl_eq,if_neg (by omega),if_pos h]
theorem tl3 {t:Tr} (h:t.k=3):t.tl=91 :: (txt t.s++[93]):=by rw[tl_eq,if_neg (by omega),if_neg (by omega),if_pos h]
theorem tl4 {t:Tr} (h:t.k=4):t.tl=tlC t.l:=by rw[tl_eq,if_neg (by omega),if_neg (by omega),if_neg (by omega),if_pos h]
theorem tl5 {t:Tr} (h:t.k=5):t.tl=tlA true t.l:=by rw[tl_eq,if_neg (by omega),if_neg (by omega),if_neg (by omega),if_neg (by omega),if_pos h]
theorem tl6 {t:Tr} (h:t.k=6\/t.k=7\/t.k=8):t.tl=tlO t.l++[markOf t.k]:=by
 rw[tl_eq,if_neg (by omega),if_neg (by omega),if_neg (by omega),if_neg (by omega),if_neg (by omega),if_pos h]
theorem tl9 {t:Tr} (h:t.k=9):t.tl=[40,41]:=by
 rw[tl_eq,if_neg (by omega),if_neg (by omega),if_neg (by omega),if_neg (by omega),if_neg (by omega),if_neg (by omega),if_neg (by omega),if_neg (by omega)]
theorem tl10 {t:Tr} (h:t.k=10):t.tl=[94]:=by
 rw[tl_eq,if_neg (by omega),if_neg (by omega),if_neg (by omega),if_neg (by omega),if_neg (by omega),if_neg (by omega),if_pos h]
theorem tl11 {t:Tr} (h:t.k=11):t.tl=[36]:=by
 rw[tl_eq,if_neg (by omega),if_neg (by omega),if_neg (by omega),if_neg (by omega),if_neg (by omega),if_neg (by omega),if_neg (by omega),if_pos h]
def jnL (bs:List Int):Bool->List Tr->List Int
 | _,[]=>[]
 | f,t :: r=>(if f=true then [] else bs)++(pcC t++jnL bs false r)
theorem jnL_C (f:Bool) (l:List Tr):jnL [] f l=tlC l:=by
 induction l generalizing f with
 | nil=>rw[jnL,tlC]
 | cons t r ih=>rw[jnL,tlC_cons,ih];simp
theorem jnL_A (f:Bool) (l:List Tr) (h:kinds l 5=false):jnL [124] f l=tlA f l:=by
 induction l generalizing f with
 | nil=>rw[jnL,tlA]
 | cons t r ih =>
  unfold kinds at h ih;rw[List.any_cons,Bool.or_eq_false_iff] at h;have h5:¬ t.k=5:=(by have:=h.1;simpa using this);rw[jnL,tlA,ih false h.2,pcC,if_neg h5]
theorem jnL_snoc (bs:List Int) (f:Bool) (l:List Tr) (t:Tr):jnL bs f (l++[t])=jnL bs f l++((if (f&&l.isEmpty)=true then [] else bs)++pcC t):=by
 induction l generalizing f with
 | nil=>simp[jnL]
 | cons x r ih=>rw[List.cons_append,jnL,ih,jnL];simp
theorem jnL_take (bs:List Int) (l:List Tr) (k:Nat) (h:k<l.length) :
  jnL bs true (l.take (k+1))=jnL bs true (l.take k)++((if k=0 then [] else bs)++pcC l[k]):=by
 rw[List.take_succ_eq_append_getElem h,jnL_snoc];congr 2
 by_cases hk:k=0
 ·subst hk;simp
 ·rw[if_neg hk,if_neg]
  have:(l.take k)≠[]:=(by intro e;have:=congrArg List.length e;rw[List.length_take,List.length_nil] at this;omega);simp[this]
theorem tlC_byte (l:List Tr) (h:∀ x∈l,byteList x.tl):byteList (tlC l):=by
 induction l with
 | nil=>rw[tlC];intro z hz;simp at hz
 | cons t r ih =>
  rw[tlC_cons];refine byteList.append ?_ (ih fun x hx=>h x (List.mem_cons_of_mem _ hx));have ht:=h t (by simp);unfold pcC;split
  ·intro z hz
   rcases List.mem_cons.1 hz with rfl | hz
   ·omega
   ·rcases List.mem_append.1 hz with hz | hz
    ·exact ht z hz
    ·simp at hz;omega
  ·exact ht
theorem tlA_byte (l:List Tr) (f:Bool) (h:∀ x∈l,byteList x.tl):byteList (tlA f l):=by
 induction l generalizing f with
 | nil=>rw[tlA];intro z hz;simp at hz
 | cons t r ih =>
  rw[tlA];refine byteList.append ?_ (byteList.append (h t (by simp)) (ih false fun x hx=>h x (List.mem_cons_of_mem _ hx)));split <;> (intro z hz;simp at hz;try omega)
theorem tl_byte:∀ t:Tr,byteList t.tl:=by
 apply Tr.ind
 intro t ih;have one:∀ c:Int,0<=c->c<=255->byteList [c]:=by intro c h0 h1 z hz;simp at hz;omega
 rw[tl_eq];split
 ·exact txt_byte _
 split
 ·exact one _ (by omega) (by omega)
 split
 ·intro z hz
  rcases List.mem_cons.1 hz with rfl | hz
  ·omega
  ·exact(txt_byte t.s).append (one 93 (by omega) (by omega)) z hz
 split
 ·exact tlC_byte _ ih
 split
 ·exact tlA_byte _ _ ih
 split
 ·refine byteList.append ?_ ?_
  ·match hl:t.l with
   | []=>rw[tlO];intro z hz;simp at hz
   | x :: r =>
    have hx:=ih x (by rw[hl];simp);rw[tlO_cons,pcO];split
    ·intro z hz
     rcases List.mem_cons.1 hz with rfl | hz
     ·omega
     ·exact hx.append (one 41 (by omega) (by omega)) z hz
    ·exact hx
  ·intro z hz
   simp[markOf] at hz;split at hz
   ·omega
   split at hz <;> omega
 split
 ·exact one _ (by omega) (by omega)
 split
 ·exact one _ (by omega) (by omega)
 ·intro z hz;simp at hz;omega
theorem tlC_len (l:List Tr) (h:∀ x∈l,x.tl.length+1<=13*x.cnt):(tlC l).length<=13*cntL l+l.length:=by
 induction l with
 | nil=>simp[tlC]
 | cons t r ih =>
  have:=ih fun x hx=>h x (List.mem_cons_of_mem _ hx);have ht:=h t (by simp);rw[tlC_cons,cntL,List.length_append,List.length_cons];have:(pcC t).length<=t.tl.length+2:=(by unfold pcC;split <;> simp);omega
theorem tlA_len (l:List Tr) (f:Bool) (h:∀ x∈l,x.tl.length+1<=13*x.cnt):(tlA f l).length<=13*cntL l:=by
 induction l generalizing f with
 | nil=>simp[tlA]
 | cons t r ih =>
  have:=ih false fun x hx=>h x (List.mem_cons_of_mem _ hx);have ht:=h t (by simp);rw[tlA,cntL,List.length_append,List.length_append];have:(if f=true then ([]:List Int) else [124]).length<=1:=(by split <;> simp);omega
theorem tl_len:∀ t:Tr,t.okT=true->t.tl.length+1<=13*t.cnt:=by
 apply Tr.ind
 intro t ih ho;rw[okT_eq,Bool.and_eq_true] at ho;have hc:=(okL_iff t.l).1 ho.1;have ih':∀ x∈t.l,x.tl.length+1<=13*x.cnt:=fun x hx=>ih x hx (hc x hx);have hn:=ho.2;rw[cnt_eq];rw[tl_eq];split
 ·rename_i h
  rw[nodeB1 h] at hn;simp[setB] at hn;rw[txt_length];omega
 split
 ·simp;omega
 split
 ·rename_i h
  rw[nodeB3 h] at hn;simp[setB] at hn;simp[txt_length];omega
 split
 ·rename_i h
  rw[nodeB4 (Or.inl h)] at hn;simp at hn;have:=tlC_len t.l ih';omega
 split
 ·have:=tlA_len t.l true ih'
  omega
 split
 ·rename_i h
  rw[nodeB6 h] at hn;simp at hn;obtain⟨x,hx⟩:=List.length_eq_one_iff.1 hn.1.2;have:=ih' x (by rw[hx];simp);rw[hx,tlO_cons,cntL,cntL,List.length_append];have:(pcO x).length<=x.tl.length+2:=(by unfold pcO;split <;> simp);simp;omega
 split
 ·simp;omega
 split
 ·simp;omega
 ·simp;omega
theorem okR_iff (t:Tr):okR t=true↔dpF 6 t=true/\t.cnt<=60/\t.okT=true:=by
 unfold okR;rw[Bool.and_eq_true,decide_eq_true_iff,(parts_spec 6 t).1];constructor
 ·rintro⟨⟨a,b⟩,c⟩;exact⟨a,b,c⟩
 ·rintro⟨a,b,c⟩;exact⟨⟨a,b⟩,c⟩
def rexS (t:Tr):ByteArray:=if okR t=true then strOf t.tl else ⟨#[]⟩
theorem cntL_mem {l:List Tr} {x:Tr} (h:x∈l):x.cnt<=cntL l:=by
 induction l with
 | nil=>simp at h
 | cons t r ih =>
  rw[cntL];rcases List.mem_cons.1 h with rfl | h
  ·omega
  ·have:=ih h;omega
theorem part_ok {t x:Tr} (h:t.okT=true) (hc:t.cnt<=60) (hx:x∈t.l):x.okT=true/\x.cnt<=60:=by
 rw[okT_eq,Bool.and_eq_true] at h;refine⟨(okL_iff t.l).1 h.1 x hx,?_⟩;have:=cntL_mem hx;rw[cnt_eq] at hc;omega
theorem jnL_app (bs:List Int) (f:Bool) (a b:List Tr):(jnL bs f a).length<=(jnL bs f (a++b)).length:=by
 induction a generalizing f with
 | nil=>rw[jnL];simp
 | cons t r ih =>
  have:=ih false;rw[List.cons_append,jnL,jnL];simp only[List.length_append];omega
theorem jnL_le (bs:List Int) (l:List Tr) (k:Nat):(jnL bs true (l.take k)).length<=(jnL bs true l).length:=by
 have:=jnL_app bs true (l.take k) (l.drop k)
 rwa [List.take_append_drop] at this
abbrev Rdr:=List Int->Option (Tr × List Int)
def leaf (k:Int):Tr:=.node k ⟨#[]⟩ []
def rep (k:Int) (t:Tr):Tr:=.node k ⟨#[]⟩ [t]
def ne93 (z:Int):Bool:=z != 93
def rdSet (r:List Int):Option (Tr × List Int) :=
 if (r.takeWhile ne93).length<r.length then some (.node 3 (strOf (r.takeWhile ne93)) [],r.drop ((r.takeWhile ne93).length+1)) else none
def rdGroup (g:Rdr) (r:List Int):Option (Tr × List Int) :=
 if r.head?=some 41 then some (leaf 9,r.tail)
 else match g r with
  | none=>none
  | some (t,q)=>if q.head?=some 41 then some (t,q.tail) else none
def rdAtom (g:Rdr):List Int->Option (Tr × List Int)
 | []=>none
 | c :: r=>if c=46 then some (leaf 2,r) else if c=94 then some (leaf 10,r) else if c=36 then some (leaf 11,r) else if c=91 then rdSet r
  else if c=40 then rdGroup g r else if rb c=true then some (.node 1 (strOf [c]) [],r) else none
def rdMark (t:Tr):List Int->Tr × List Int
 | []=>(t,[])
 | c :: q=>if c=42 then (rep 6 t,q) else if c=43 then (rep 7 t,q) else if c=63 then (rep 8 t,q) else (t,c :: q)
def rdItem (g:Rdr) (r:List Int):Option (Tr × List Int) :=
 match rdAtom g r with
 | none=>none
 | some (t,q)=>some (rdMark t q)
def goesOn:List Int->Bool
 | []=>false
 | c :: _=>c != 124&&c != 41
def rdCatL (g:Rdr):Nat->List Tr->List Int->Option (List Tr × List Int)
 | 0,acc,r=>if goesOn r=true then none else some (acc,r)
 | m+1,acc,r=>if goesOn r=true then (match rdItem g r with
   | none=>none
   | some (t,q)=>rdCatL g m (acc++[t]) q) else some (acc,r)
def oneAll (k:Int):List Tr->Tr
 | [t]=>t
 | l=>.node k ⟨#[]⟩ l
def rdCat (g:Rdr) (r:List Int):Option (Tr × List Int) :=
 match rdItem g r with
 | none=>none
 | some (t,q)=>(rdCatL g q.length [t] q).map fun p=>(oneAll 4 p.1,p.2)
def rdAltL (g:Rdr):Nat->List Tr->List Int->Option (List Tr × List Int)
 | 0,acc,r=>if r.head?=some 124 then none else some (acc,r)
 | m+1,acc,r=>if r.head?=some 124 then (match rdCat g r.tail with
   | none=>none
   | some (t,q)=>rdAltL g m (acc++[t]) q) else some (acc,r)
def rdAlt (g:Rdr) (r:List Int):Option (Tr × List Int) :=
 match rdCat g r with
 | none=>none
 | some (t,q)=>(rdAltL g q.length [t] q).map fun p=>(oneAll 5 p.1,p.2)
def rd:Nat->Rdr
 | 0=>fun _=>none
 | n+1=>rdAlt (rd n)
theorem rb_ne {c:Int} (h:rb c=true):c≠41/\c≠124/\c≠42/\c≠43/\c≠63/\c≠46/\c≠94/\c≠36/\c≠91/\c≠40/\c≠93:=by
 refine⟨?_,?_,?_,?_,?_,?_,?_,?_,?_,?_,?_⟩ <;> (rintro rfl;exact absurd h (by decide))
theorem noStr {s:ByteArray} (h:s.toList.isEmpty=true):s=⟨#[]⟩:=by
 have h1:s.toList=[]:=by simpa using h
 have h2:s.data.toList=[]:=by rw[<- ByteArray.toList_eq];exact h1
 apply ByteArray.ext
 apply Array.toList_inj.1
 rw[h2]
theorem ris_all {s:ByteArray} (h:risB s=true):∀ z∈txt s,rb z=true:=by
 intro z hz;obtain⟨j,hj,rfl⟩:=List.getElem_of_mem hz;unfold risB at h;rw[List.all_eq_true] at h;rw[txt_length] at hj;have:=h j (List.mem_range.2 hj);unfold okAt at this;rw[Bool.and_eq_true] at this;have h1:=this.1;unfold ba at h1
 rwa [List.getD,List.getElem?_eq_getElem (by rw[txt_length];exact hj)] at h1
theorem set_ne {s:ByteArray} {m:Nat} (h:setB s m=true):1<=s.size/\s.size<=m/\risB s=true:=by
 simp[setB] at h;exact⟨h.1.1,h.1.2,h.2⟩
def okHead (l:List Int):Prop:=∃ c r,l=c :: r/\c≠41/\c≠124/\c≠42/\c≠43/\c≠63
theorem okHead.app {l:List Int} (h:okHead l) (r:List Int):okHead (l++r):=by
 obtain⟨c,q,rfl,hc⟩:=h;exact⟨c,q++r,rfl,hc⟩
theorem okHead.par (l:List Int):okHead (40 :: l):=⟨40,l,rfl,by omega,by omega,by omega,by omega,by omega⟩
theorem okHead.pos {l:List Int} (h:okHead l):1<=l.length:=by obtain⟨c,q,rfl,_⟩:=h;simp
theorem node_of {t:Tr} (h:t.okT=true):nodeB t=true:=by rw[okT_eq,Bool.and_eq_true] at h;exact h.2
theorem parts_of {t:Tr} (h:t.okT=true):∀ x∈t.l,x.okT=true:=by rw[okT_eq,Bool.and_eq_true] at h;exact(okL_iff t.l).1 h.1
theorem kind_of {t:Tr} (h:t.okT=true):1<=t.k/\t.k<=11:=by
 have:=node_of h;apply Decidable.byContradiction
 intro hn;rw[nodeBx (by omega)] at this;cases this
theorem tl_head:∀ t:Tr,t.okT=true->okHead t.tl:=by
 apply Tr.ind
 intro t ih ho;have hn:=node_of ho;have hp:=parts_of ho;have hk:=kind_of ho;by_cases h1:t.k=1
 ·rw[tl1 h1]
  rw[nodeB1 h1,Bool.and_eq_true] at hn;obtain⟨a,b,c⟩:=set_ne hn.1;have hl:=txt_length t.s
  match hx:txt t.s with
  | []=>rw[hx] at hl;simp at hl;omega
  | z :: r =>
   have:=rb_ne (ris_all c z (by rw[hx];simp));exact⟨z,r,rfl,this.1,this.2.1,this.2.2.1,this.2.2.2.1,this.2.2.2.2.1⟩
 by_cases h2:t.k=2
 ·rw[tl2 h2];exact⟨46,[],rfl,by omega,by omega,by omega,by omega,by omega⟩
 by_cases h3:t.k=3
 ·rw[tl3 h3];exact⟨91,_,rfl,by omega,by omega,by omega,by omega,by omega⟩
 by_cases h4:t.k=4
 ·rw[tl4 h4]
  rw[nodeB4 (Or.inl h4)] at hn;simp at hn
  match hx:t.l with
  | []=>rw[hx] at hn;simp at hn
  | x :: r =>
   rw[tlC_cons];apply okHead.app
   unfold pcC;split
   ·exact okHead.par _
   ·exact ih x (by rw[hx];simp) (hp x (by rw[hx];simp))
 by_cases h5:t.k=5
 ·rw[tl5 h5]
  rw[nodeB4 (Or.inr h5)] at hn;simp at hn
  match hx:t.l with
  | []=>rw[hx] at hn;simp at hn
  | x :: r =>
   rw[tlA];simp only[if_true,List.nil_append];exact(ih x (by rw[hx];simp) (hp x (by rw[hx];simp))).app _
 by_cases h6:t.k=6\/t.k=7\/t.k=8
 ·rw[tl6 h6]
  rw[nodeB6 h6] at hn;simp at hn;obtain⟨x,hx⟩:=List.length_eq_one_iff.1 hn.1.2;rw[hx,tlO_cons];apply okHead.app
  unfold pcO;split
  ·exact okHead.par _
  ·exact ih x (by rw[hx];simp) (hp x (by rw[hx];simp))
 by_cases h9:t.k=9
 ·rw[tl9 h9];exact okHead.par _
 by_cases h10:t.k=10
 ·rw[tl10 h10];exact⟨94,[],rfl,by omega,by omega,by omega,by omega,by omega⟩
 ·rw[tl11 (by omega)];exact⟨36,[],rfl,by omega,by omega,by omega,by omega,by omega⟩
theorem takeWhile_set (z rest:List Int) (h:∀ c∈z,rb c=true):(z++93 :: rest).takeWhile ne93=z:=by
 induction z with
 | nil=>simp[ne93]
 | cons c r ih =>
  have hc:=(rb_ne (h c (by simp))).2.2.2.2.2.2.2.2.2.2;have:ne93 c=true:=(by simpa [ne93] using hc);rw[List.cons_append,List.takeWhile_cons_of_pos this,ih fun x hx=>h x (List.mem_cons_of_mem _ hx)]
theorem leaf_eq {t:Tr} (hs:t.s.toList.isEmpty=true) (hl:t.l.length=0):leaf t.k=t:=by
 have e1:=noStr hs;have e2:t.l=[]:=List.eq_nil_of_length_eq_zero hl;rw[<- t.eta,e1,e2];rfl
theorem atom_leaf (g:Rdr) (t:Tr) (h:t.okT=true) (hk:t.k=1\/t.k=2\/t.k=3\/t.k=9\/t.k=10\/t.k=11) (rest:List Int):rdAtom g (t.tl++rest)=some (t,rest):=by
 have hn:=node_of h;rcases hk with h1 | h1 | h1 | h1 | h1 | h1
 ·rw[nodeB1 h1,Bool.and_eq_true] at hn
  obtain⟨a,b,c⟩:=set_ne hn.1;have hl:=txt_length t.s;obtain⟨z,hz⟩:=List.length_eq_one_iff.1 (show(txt t.s).length=1 by omega);have hr:=ris_all c z (by rw[hz];simp);have hne:=rb_ne hr;have e2:t.l=[]:=List.eq_nil_of_length_eq_zero (by simpa using hn.2);rw[tl1 h1,hz];show rdAtom g (z :: rest)=_
  rw[rdAtom,if_neg hne.2.2.2.2.2.1,if_neg hne.2.2.2.2.2.2.1,if_neg hne.2.2.2.2.2.2.2.1,if_neg hne.2.2.2.2.2.2.2.2.1,if_neg hne.2.2.2.2.2.2.2.2.2.1,if_pos hr,<- hz,strOf_txt];congr 2
  conv=>rhs;rw[<- t.eta,h1,e2]
 ·rw[nodeB0 (by omega)] at hn
  simp only[Bool.and_eq_true,decide_eq_true_eq] at hn;rw[tl2 h1];show rdAtom g (46 :: rest)=_
  rw[rdAtom,if_pos rfl,<- h1,leaf_eq hn.1 hn.2]
 ·rw[nodeB3 h1,Bool.and_eq_true] at hn
  obtain⟨a,b,c⟩:=set_ne hn.1;have e2:t.l=[]:=List.eq_nil_of_length_eq_zero (by simpa using hn.2);rw[tl3 h1];have e:91 :: (txt t.s++[93])++rest=91 :: (txt t.s++93 :: rest):=(by simp);rw[e,rdAtom,if_neg (by omega),if_neg (by omega),if_neg (by omega),if_pos rfl,rdSet,takeWhile_set _ _ (ris_all c),if_pos (by simp),strOf_txt];congr 2
  ·conv=>rhs;rw[<- t.eta,h1,e2]
  ·rw[<- List.drop_drop];simp
 ·rw[nodeB0 (by omega)] at hn
  simp only[Bool.and_eq_true,decide_eq_true_eq] at hn;rw[tl9 h1];show rdAtom g (40 :: 41 :: rest)=_
  rw[rdAtom,if_neg (by omega),if_neg (by omega),if_neg (by omega),if_neg (by omega),if_pos rfl,rdGroup,if_pos (show(41 :: rest).head?=some 41 from rfl),<- h1,leaf_eq hn.1 hn.2];rfl
 ·rw[nodeB0 (by omega)] at hn
  simp only[Bool.and_eq_true,decide_eq_true_eq] at hn;rw[tl10 h1];show rdAtom g (94 :: rest)=_
  rw[rdAtom,if_neg (by omega),if_pos rfl,<- h1,leaf_eq hn.1 hn.2]
 ·rw[nodeB0 (by omega)] at hn
  simp only[Bool.and_eq_true,decide_eq_true_eq] at hn;rw[tl11 h1];show rdAtom g (36 :: rest)=_
  rw[rdAtom,if_neg (by omega),if_neg (by omega),if_pos rfl,<- h1,leaf_eq hn.1 hn.2]
theorem atom_par (g:Rdr) (t:Tr) (h:t.okT=true) (rest:List Int) (hg:g (t.tl++41 :: rest)=some (t,41 :: rest)):rdAtom g (40 :: (t.tl++[41])++rest)=some (t,rest):=by
 have e:40 :: (t.tl++[41])++rest=40 :: (t.tl++41 :: rest):=by simp
 obtain⟨c,r,hc,h41,_⟩:=tl_head t h;rw[e,rdAtom,if_neg (by omega),if_neg (by omega),if_neg (by omega),if_neg (by omega),if_pos rfl,rdGroup,if_neg (by rw[hc];simpa using h41),hg];rfl
def noMark (l:List Int):Prop:=∀ c r,l=c :: r->c≠42/\c≠43/\c≠63
theorem rdMark_no (t:Tr) (l:List Int) (h:noMark l):rdMark t l=(t,l):=by
 cases l with
 | nil=>rfl
 | cons c r=>obtain⟨a,b,d⟩:=h c r rfl;rw[rdMark,if_neg a,if_neg b,if_neg d]
theorem dpF_mono:∀ (n:Nat) (t:Tr),dpF n t=true->dpF (n+1) t=true:=by
 intro n;induction n with
 | zero=>intro t h;simp[dpF] at h
 | succ n ih =>
  intro t h;rw[dpF,List.all_eq_true] at h |-;exact fun x hx=>ih x (h x hx)
def Stop (l:List Int):Prop:=goesOn l=false
theorem Stop.noMark {l:List Int} (h:Stop l):noMark l:=by
 intro c r e;subst e;simp[Stop,goesOn] at h;by_cases hc:c=124
 ·subst hc;omega
 ·have:=h hc;omega
theorem okHead.goes {l:List Int} (h:okHead l):goesOn l=true:=by
 obtain⟨c,r,rfl,h1,h2,_⟩:=h;simp[goesOn,h1,h2]
theorem okHead.noMark {l:List Int} (h:okHead l):noMark l:=by
 obtain⟨c,r,rfl,h1,h2,h3,h4,h5⟩:=h;intro c' r' e;injection e with e1 e2
 subst e1;exact⟨h3,h4,h5⟩
def Back (n:Nat):Prop:=∀ t:Tr,t.okT=true->dpF n t=true->∀ rest,(rest=[]\/rest.head?=some 41)->rd n (t.tl++rest)=some (t,rest)
theorem item_pc (n:Nat) (hb:Back n) (t:Tr) (h:t.okT=true) (hd:dpF (n+1) t=true) (h4:t.k≠4) (h5:t.k≠5) (rest:List Int) (hr:noMark rest):rdItem (rd n) (t.tl++rest)=some (t,rest):=by
 have hk:=kind_of h;by_cases h6:t.k=6\/t.k=7\/t.k=8
 ·have hn:=node_of h
  rw[nodeB6 h6] at hn;simp at hn;obtain⟨x,hx⟩:=List.length_eq_one_iff.1 hn.1.2;have hxo:=parts_of h x (by rw[hx];simp);have hrx:repB x.k=false:=(by have:=hn.2;rw[hx] at this;exact this);have hxd:dpF n x=true:=(by rw[dpF,hx] at hd;simpa using hd);have hxk:=kind_of hxo;have hat:rdAtom (rd n) (pcO x++(markOf t.k :: rest))=some (x,markOf t.k :: rest):=by
   unfold pcO;split
   ·exact atom_par _ x hxo _ (hb x hxo hxd _ (Or.inr rfl))
   ·rename_i hn45
    refine atom_leaf _ x hxo ?_ _;have:¬ (x.k=6\/x.k=7\/x.k=8):=by
     rintro(e | e | e) <;> (rw[e] at hrx;simp[repB] at hrx)
    omega
  have e:t.tl++rest=pcO x++(markOf t.k :: rest):=(by rw[tl6 h6,hx,tlO_cons];simp);rw[rdItem,e,hat];have hs:t.s.toList.isEmpty=true:=(by rw[hn.1.1];rfl);have he:rep t.k x=t:=by
   conv=>rhs;rw[<- t.eta,noStr hs,hx]
   rfl
  show some (rdMark x (markOf t.k :: rest))=_
  rcases h6 with h6 | h6 | h6
  ·rw[h6] at he |-
   rw[rdMark,show markOf 6=42 from rfl,if_pos rfl,he]
  ·rw[h6] at he |-
   rw[rdMark,show markOf 7=43 from rfl,if_neg (by omega),if_pos rfl,he]
  ·rw[h6] at he |-
   rw[rdMark,show markOf 8=63 from rfl,if_neg (by omega),if_neg (by omega),if_pos rfl,he]
 ·rw[rdItem,atom_leaf _ t h (by omega)]
  show some (rdMark t rest)=_
  rw[rdMark_no t rest hr]
theorem item_pcC (n:Nat) (hb:Back n) (t:Tr) (h:t.okT=true) (hd:dpF n t=true) (h4:t.k≠4) (rest:List Int) (hr:noMark rest):rdItem (rd n) (pcC t++rest)=some (t,rest):=by
 unfold pcC;split
 ·rw[rdItem,atom_par _ t h _ (hb t h hd _ (Or.inr rfl))]
  show some (rdMark t rest)=_
  rw[rdMark_no t rest hr]
 ·exact item_pc n hb t h (dpF_mono n t hd) h4 (by assumption) rest hr
theorem pcC_head (t:Tr) (h:t.okT=true):okHead (pcC t):=by
 unfold pcC;split
 ·exact okHead.par _
 ·exact tl_head t h
theorem tlC_rest_noMark (l:List Tr) (h:∀ x∈l,x.okT=true) (rest:List Int) (hr:Stop rest):noMark (tlC l++rest):=by
 cases l with
 | nil=>rw[tlC];exact hr.noMark
 | cons x r=>rw[tlC_cons,List.append_assoc];exact((pcC_head x (h x (by simp))).app _).noMark
theorem catL_back (n:Nat) (hb:Back n) (l:List Tr) (h:∀ x∈l,x.okT=true/\dpF n x=true/\x.k≠4) (rest:List Int) (hr:Stop rest) :
  ∀ (m:Nat) (acc:List Tr),l.length<=m->rdCatL (rd n) m acc (tlC l++rest)=some (acc++l,rest):=by
 induction l with
 | nil =>
  intro m acc _;have:goesOn ([]++rest)=false:=hr;rw[tlC];cases m with
  | zero=>rw[rdCatL,if_neg (by rw[this];simp)];simp
  | succ m=>rw[rdCatL,if_neg (by rw[this];simp)];simp
 | cons x r ih =>
  intro m acc hm;obtain⟨ho,hd,h4⟩:=h x (by simp);cases m with
  | zero=>simp at hm
  | succ m =>
   have hg:goesOn (tlC (x :: r)++rest)=true:=(by rw[tlC_cons,List.append_assoc];exact((pcC_head x ho).app _).goes);rw[rdCatL,if_pos hg,tlC_cons,List.append_assoc,item_pcC n hb x ho hd h4 _ (tlC_rest_noMark r (fun y hy=>(h y (List.mem_cons_of_mem _ hy)).1) rest hr)];show rdCatL (rd n) m (acc++[x]) (tlC r++rest)=_
   rw[ih (fun y hy=>h y (List.mem_cons_of_mem _ hy)) m (acc++[x]) (by simpa using hm)];simp
theorem tlC_length (l:List Tr) (h:∀ x∈l,x.okT=true):l.length<=(tlC l).length:=by
 induction l with
 | nil=>simp
 | cons x r ih =>
  have:=ih fun y hy=>h y (List.mem_cons_of_mem _ hy);have:=(pcC_head x (h x (by simp))).pos;rw[tlC_cons,List.length_append,List.length_cons];omega
theorem kinds_ne {l:List Tr} {k:Int} (h:kinds l k=false):∀ x∈l,x.k≠k:=by
 intro x hx;unfold kinds at h;rw[List.any_eq_false] at h
 simpa using h x hx
theorem cat_back (n:Nat) (hb:Back n) (t:Tr) (h:t.okT=true) (hd:dpF (n+1) t=true) (h5:t.k≠5) (rest:List Int) (hr:Stop rest):rdCat (rd n) (t.tl++rest)=some (t,rest):=by
 by_cases h4:t.k=4
 ·have hn:=node_of h
  rw[nodeB4 (Or.inl h4)] at hn;simp only[Bool.and_eq_true,decide_eq_true_eq,Bool.not_eq_true'] at hn;obtain⟨⟨⟨hs,h2⟩,h8⟩,hkd⟩:=hn;have hall:∀ x∈t.l,x.okT=true/\dpF n x=true/\x.k≠4:=fun x hx=>⟨parts_of h x hx,by rw[dpF,List.all_eq_true] at hd;exact hd x hx,by have:=kinds_ne hkd x hx;rw[h4] at this;exact this⟩
  match hx:t.l,h2 with
  | [],h2=>simp at h2
  | x :: r,h2 =>
   obtain⟨xo,xd,x4⟩:=hall x (by rw[hx];simp);have hall':∀ y∈r,y.okT=true/\dpF n y=true/\y.k≠4:=fun y hy=>hall y (by rw[hx];exact List.mem_cons_of_mem _ hy);rw[tl4 h4,hx,tlC_cons,List.append_assoc,rdCat,item_pcC n hb x xo xd x4 _ (tlC_rest_noMark r (fun y hy=>(hall' y hy).1) rest hr)];show(rdCatL (rd n) (tlC r++rest).length [x] (tlC r++rest)).map _=_
   rw[catL_back n hb r hall' rest hr _ _ (by have:=tlC_length r fun y hy=>(hall' y hy).1;simp;omega)]
   match r,h2 with
   | y :: r',_ =>
    show some (oneAll 4 (x :: y :: r'),rest)=_
    congr 2
    conv=>rhs;rw[<- t.eta,h4,noStr hs,hx]
    rfl
 ·rw[rdCat,item_pc n hb t h hd h4 h5 rest hr.noMark]
  show(rdCatL (rd n) rest.length [t] rest).map _=_
  have:=catL_back n hb [] (by simp) rest hr rest.length [t] (by simp);rw[tlC] at this;rw[List.nil_append] at this;rw[this];rfl
theorem altL_back (n:Nat) (hb:Back n) (l:List Tr) (h:∀ x∈l,x.okT=true/\dpF (n+1) x=true/\x.k≠5) (rest:List Int) (hr:rest=[]\/rest.head?=some 41) :
  ∀ (m:Nat) (acc:List Tr),l.length<=m->rdAltL (rd n) m acc (tlA false l++rest)=some (acc++l,rest):=by
 have h124:¬ rest.head?=some 124:=by rcases hr with rfl | hr;simp;rw[hr];simp
 induction l with
 | nil =>
  intro m acc _;rw[tlA,List.nil_append];cases m with
  | zero=>rw[rdAltL,if_neg h124];simp
  | succ m=>rw[rdAltL,if_neg h124];simp
 | cons x r ih =>
  intro m acc hm;obtain⟨ho,hd,h5⟩:=h x (by simp);cases m with
  | zero=>simp at hm
  | succ m =>
   have hst:Stop (tlA false r++rest):=by
    cases r with
    | nil =>
     rw[tlA,List.nil_append];rcases hr with rfl | hr
     ·rfl
     ·match rest,hr with
      | c :: q,hr=>simp at hr;subst hr;rfl
    | cons y q=>rw[tlA];rfl
   rw[tlA,rdAltL];simp only[Bool.false_eq_true,if_false,List.cons_append,List.nil_append,List.head?_cons,if_true,List.tail_cons,List.append_assoc];rw[cat_back n hb x ho hd h5 _ hst];show rdAltL (rd n) m (acc++[x]) (tlA false r++rest)=_
   rw[ih (fun y hy=>h y (List.mem_cons_of_mem _ hy)) m (acc++[x]) (by simpa using hm)];simp
theorem tlA_length (l:List Tr):l.length<=(tlA false l).length:=by
 induction l with
 | nil=>simp
 | cons x r ih=>rw[tlA];simp;omega
theorem back_succ (n:Nat) (hb:Back n):Back (n+1):=by
 intro t h hd rest hr;have hst0:Stop rest:=by
  rcases hr with rfl | hr
  ·rfl
  ·match rest,hr with
   | c :: q,hr=>simp at hr;subst hr;rfl
 rw[rd,rdAlt];by_cases h5:t.k=5
 ·have hn:=node_of h
  rw[nodeB4 (Or.inr h5)] at hn;simp only[Bool.and_eq_true,decide_eq_true_eq,Bool.not_eq_true'] at hn;obtain⟨⟨⟨hs,h2⟩,h8⟩,hkd⟩:=hn;have hall:∀ x∈t.l,x.okT=true/\dpF (n+1) x=true/\x.k≠5:=fun x hx=>⟨parts_of h x hx,dpF_mono n x (by rw[dpF,List.all_eq_true] at hd;exact hd x hx),by have:=kinds_ne hkd x hx;rw[h5] at this;exact this⟩
  match hx:t.l,h2 with
  | [],h2=>simp at h2
  | x :: r,h2 =>
   obtain⟨xo,xd,x5⟩:=hall x (by rw[hx];simp);have hall':∀ y∈r,y.okT=true/\dpF (n+1) y=true/\y.k≠5:=fun y hy=>hall y (by rw[hx];exact List.mem_cons_of_mem _ hy);have hst:Stop (tlA false r++rest):=by
    cases r with
    | nil=>rw[tlA,List.nil_append];exact hst0
    | cons y q=>rw[tlA];rfl
   rw[tl5 h5,hx,tlA];simp only[if_true,List.nil_append,List.append_assoc];rw[cat_back n hb x xo xd x5 _ hst];show(rdAltL (rd n) (tlA false r++rest).length [x] (tlA false r++rest)).map _=_
   rw[altL_back n hb r hall' rest hr _ _ (by have:=tlA_length r;simp;omega)]
   match r,h2 with
   | y :: r',_ =>
    show some (oneAll 5 (x :: y :: r'),rest)=_
    congr 2
    conv=>rhs;rw[<- t.eta,h5,noStr hs,hx]
    rfl
 ·rw[cat_back n hb t h hd h5 rest hst0]
  show(rdAltL (rd n) rest.length [t] rest).map _=_
  have:=altL_back n hb [] (by simp) rest hr rest.length [t] (by simp);rw[tlA,List.nil_append] at this;rw[this];rfl
theorem back_zero:Back 0:=by intro t _ hd;simp[dpF] at hd
theorem back_any (n:Nat):Back n:=by
 induction n with
 | zero=>exact back_zero
 | succ n ih=>exact back_succ n ih
theorem dpF_le {n m:Nat} (h:n<=m) {t:Tr} (hd:dpF n t=true):dpF m t=true:=by
 induction m with
 | zero =>
  obtain rfl:n=0:=by omega
  exact hd
 | succ m ih =>
  by_cases he:n=m+1
  ·subst he;exact hd
  ·exact dpF_mono m t (ih (by omega))
theorem rd_back (n:Nat) (hn:6<=n) (t:Tr) (h:okR t=true):rd n t.tl=some (t,[]):=by
 obtain⟨hd,hc,ho⟩:=(okR_iff t).1 h;have:=back_any n t ho (dpF_le hn hd) [] (Or.inl rfl)
 rwa [List.append_nil] at this
end Go.Proofs.YtkbijjkgfojchaaGreat
namespace Go.Proofs.YtkbijjkgfojchaaGreat
open Go.Shelf Go.RowKit
def ren137:Go.Shelf.Ren:=⟨fun | 137=>279 | 217=>280 | 266=>281 | n=>n,fun | 9=>9 | 5=>5 | 3=>3 | n=>n,fun | n=>n⟩
theorem lays137:Go.Proofs.Lays.n137 Tryz.prog ren137:={
 mixed:=by kernel_rfl
 f137:=Tryz.func279.trans (congrArg some (by kernel_rfl))
 f217:=Tryz.func280.trans (congrArg some (by kernel_rfl))
 f266:=Tryz.func281.trans (congrArg some (by kernel_rfl))
 t3:=Tryz.underlying3
 a3:=Tryz.isAgg3
 z3:=Tryz.sizeOf3
 v3:=Tryz.zeroValue3
 t5:=Tryz.underlying5
 a5:=Tryz.isAgg5
 z5:=Tryz.sizeOf5
 v5:=Tryz.zeroValue5
 t9:=Tryz.underlying9
 a9:=Tryz.isAgg9
 z9:=Tryz.sizeOf9
 v9:=Tryz.zeroValue9 }
theorem indexByte_any (s:ByteArray) (c:Int) (w:World) :
  Calls Tryz.prog 279 #[.string s,.int .u8 c] w fun e w'=>e=.returned (.int .i64 (Lib.indexByte s.data.toList c.toNat.toUInt8))/\w'=w:=Any.strings_IndexByte lays137 s c w
theorem index_take (l:List UInt8) (c:UInt8) (n:Int) (hc:(c.toNat:Int)=n) :
  Lib.indexByte l c=(if ((l.map fun b=>((b.toNat:Nat):Int)).takeWhile (fun z=>z != n)).length<l.length then (((l.map fun b=>((b.toNat:Nat):Int)).takeWhile (fun z=>z != n)).length:Int) else -1):=by
 induction l with
 | nil=>simp[Lib.indexByte]
 | cons b r ih =>
  rw[Lib.indexByte];by_cases hb:b=c
  ·subst hb
   have:(((b.toNat:Nat):Int) != n)=false:=(by simp[hc]);simp[this]
  ·have hne:(b==c)=false:=by simpa using hb
   have h1:(((b.toNat:Nat):Int) != n)=true:=by
    have:¬ b.toNat=c.toNat:=fun e=>hb (UInt8.toNat_inj.1 e);simp;omega
   rw[hne,ih,List.map_cons,List.takeWhile_cons_of_pos (p:=fun z=>z != n) h1];simp only[Bool.false_eq_true,if_false,List.length_cons];generalize ((r.map fun b=>((b.toNat:Nat):Int)).takeWhile (fun z=>z != n)).length=m;by_cases hl:m<r.length
   ·simp only[hl,if_true]
    rw[if_neg (by simp),if_pos (by omega)];omega
   ·simp only[hl,if_false]
    rw[if_pos (by rfl),if_neg (by omega)]
theorem index_txt (s:ByteArray):Lib.indexByte s.data.toList 93=(if ((txt s).takeWhile ne93).length<(txt s).length then (((txt s).takeWhile ne93).length:Int) else -1):=by
 have:=index_take s.data.toList 93 93 rfl;rw[this,txt_length];have e:s.data.toList.length=s.size:=by rw[Array.length_toList];rfl
 rw[e];rfl
end Go.Proofs.YtkbijjkgfojchaaGreat
