/- Which terms are right: as functions on trees. The program's way of counting and the model's way come to the same. .. -/
import Derived.Test.YtkbijjkgfojchaaGreatQRun12
import Derived.WalkSmall
namespace Go.Proofs.YtkbijjkgfojchaaGreat
set_option maxHeartbeats 4000000
open Go.RowKit
set_option maxRecDepth 8000
open Classical in
noncomputable def rtB (s:ByteArray):Bool:=decide (s.size<=200/\∃ t,IsTx s t)
noncomputable def nodeK (k:Int) (s:ByteArray) (n:Nat):Bool :=
 if k=1 then s.toList.isEmpty&&n==0
 else if k=2 then prB 39 s&&n==0
 else if k=3 then nmB s&&n==0
 else if k=4\/k=9 then nmB s&&n==1
 else if k=6 then opB s&&n==2
 else if k=10 then rtB s&&n==1
 else if k=18 then rtB s&&n==2
 else if k=11 then nmB s&&decide (n<=4)
 else if k=5\/k=7\/k=8\/k=12\/k=17 then s.toList.isEmpty&&n==1
 else if k=13 then s.toList.isEmpty&&n==3
 else if k=16 then s.toList.isEmpty&&n==2
 else if k=14\/k=15 then s.toList.isEmpty&&n==0
 else false
noncomputable def nodeX (t:Ex):Bool:=(if t.k=1 then bwB 0 2147483647 t.n else t.n==0)&&nodeK t.k t.s t.l.length
mutual
noncomputable def Ex.okT:Ex->Bool
 | .node k n s l=>okXL l&&nodeX (.node k n s l)
noncomputable def okXL:List Ex->Bool
 | []=>true
 | t :: r=>t.okT&&okXL r
end
mutual
def Ex.cnt:Ex->Nat
 | .node _ _ _ l=>1+cntXL l
def cntXL:List Ex->Nat
 | []=>0
 | t :: r=>t.cnt+cntXL r
end
theorem okX_eq (t:Ex):t.okT=(okXL t.l&&nodeX t):=by cases t;rw[Ex.okT];rfl
theorem cntX_eq (t:Ex):t.cnt=1+cntXL t.l:=by cases t;rw[Ex.cnt];rfl
theorem cntX_pos (t:Ex):1<=t.cnt:=by rw[cntX_eq];omega
theorem okXL_iff (l:List Ex):okXL l=true↔∀ x∈l,x.okT=true:=by
 induction l with
 | nil=>simp[okXL]
 | cons t r ih=>simp[okXL,ih]
def dpX:Nat->Ex->Bool
 | 0,_=>false
 | f+1,t=>t.l.all (dpX f)
def partsXG (g:Ex->Nat) (n:Nat) (x:Ex):Nat:=if n<=100 then n+g x else n
def partsX:Nat->Ex->Nat
 | 0,_=>101
 | f+1,t=>t.l.foldl (partsXG (partsX f)) 1
def roomXG (g:Ex->Int->Int) (q:Int) (x:Ex):Int:=if q<0 then -1 else g x q
noncomputable def roomX:Nat->Ex->Int->Int
 | 0,_,_ => -1
 | f+1,t,r=>if r=0\/nodeX t=false then -1 else t.l.foldl (roomXG (roomX f)) (r-1)
theorem partsX_fold {f:Nat} (ih:∀ t,(partsX f t<=100↔dpX f t=true/\t.cnt<=100)/\(partsX f t<=100->partsX f t=t.cnt)) (l:List Ex) :
  ∀ n,(l.foldl (partsXG (partsX f)) n<=100↔n<=100/\l.all (dpX f)=true/\n+cntXL l<=100)/\(l.foldl (partsXG (partsX f)) n<=100->l.foldl (partsXG (partsX f)) n=n+cntXL l):=by
 induction l with
 | nil=>intro n;simp[cntXL]
 | cons t r ihl =>
  intro n;rw[List.foldl_cons,List.all_cons,cntXL];obtain⟨h1,h2⟩:=ihl (partsXG (partsX f) n t);obtain⟨i1,i2⟩:=ih t;by_cases hn:n<=100
  ·have hg:partsXG (partsX f) n t=n+partsX f t:=by rw[partsXG,if_pos hn]
   rw[hg] at h1 h2 |-;by_cases hp:partsX f t<=100
   ·have e:=i2 hp
    obtain⟨d,c⟩:=i1.1 hp;rw[e] at h1 h2 |-;constructor
    ·rw[h1,d,Bool.true_and]
     exact⟨fun h=>⟨hn,h.2.1,by omega⟩,fun h=>⟨by omega,h.2.1,by omega⟩⟩
    ·intro h;rw[h2 h];omega
   ·have hnd:¬ (dpX f t=true/\t.cnt<=100):=fun h=>hp (i1.2 h)
    constructor
    ·rw[h1]
     constructor
     ·intro h;omega
     ·intro h
      exfalso
      apply hnd
      have hd:dpX f t=true:=(by have:=h.2.1;simp only[Bool.and_eq_true] at this;exact this.1);exact⟨hd,by omega⟩
    ·intro h;have:=h1.1 h;omega
  ·have hg:partsXG (partsX f) n t=n:=by rw[partsXG,if_neg hn]
   rw[hg] at h1 h2 |-;constructor
   ·rw[h1]
    constructor
    ·intro h;omega
    ·intro h;omega
   ·intro h;have:=h1.1 h;omega
theorem partsX_spec (f:Nat):∀ t,(partsX f t<=100↔dpX f t=true/\t.cnt<=100)/\(partsX f t<=100->partsX f t=t.cnt):=by
 induction f with
 | zero=>intro t;simp[partsX,dpX]
 | succ f ih =>
  intro t;obtain⟨h1,h2⟩:=partsX_fold ih t.l 1;rw[partsX,dpX,cntX_eq];constructor
  ·rw[h1]
   constructor
   ·intro h;exact⟨h.2.1,h.2.2⟩
   ·intro h;exact⟨by omega,h.1,h.2⟩
  ·exact h2
theorem roomX_fold {f:Nat} (ih:∀ t r,0<=r->roomX f t r=if dpX f t=true/\t.okT=true/\(t.cnt:Int)<=r then r-t.cnt else -1) (l:List Ex) :
  ∀ q:Int,-1<=q->l.foldl (roomXG (roomX f)) q=if 0<=q/\l.all (dpX f)=true/\okXL l=true/\(cntXL l:Int)<=q then q-cntXL l else -1:=by
 induction l with
 | nil=>intro q hq;simp[cntXL,okXL];omega
 | cons t r ihl =>
  intro q hq;rw[List.foldl_cons,List.all_cons,cntXL,okXL];by_cases h0:q<0
  ·have hg:roomXG (roomX f) q t = -1:=by rw[roomXG,if_pos h0]
   rw[hg,ihl (-1) (by omega),if_neg (by omega),if_neg (by omega)]
  ·have hg:roomXG (roomX f) q t=roomX f t q:=by rw[roomXG,if_neg h0]
   rw[hg,ih t q (by omega)];by_cases hc:dpX f t=true/\t.okT=true/\(t.cnt:Int)<=q
   ·rw[if_pos hc,ihl _ (by omega)]
    obtain⟨d,o,c⟩:=hc;simp only[d,o,Bool.true_and];split <;> split <;> (try omega)
    ·rename_i a b;exact absurd ⟨by omega,a.2.1,a.2.2.1,by omega⟩ b
    ·rename_i a b;exact absurd ⟨by omega,b.2.1,b.2.2.1,by omega⟩ a
   ·rw[if_neg hc,ihl (-1) (by omega),if_neg (by omega),if_neg]
    intro h;apply hc
    have hd:=h.2.1;have ho:=h.2.2.1;simp only[Bool.and_eq_true] at hd ho;exact⟨hd.1,ho.1,by omega⟩
theorem roomX_spec (f:Nat):∀ t r,0<=r->roomX f t r=if dpX f t=true/\t.okT=true/\(t.cnt:Int)<=r then r-t.cnt else -1:=by
 induction f with
 | zero=>intro t r _;simp[roomX,dpX]
 | succ f ih =>
  intro t r hr;rw[roomX,dpX,cntX_eq,okX_eq];by_cases h0:r=0\/nodeX t=false
  ·rw[if_pos h0,if_neg]
   rintro⟨_,h2,h3⟩;rcases h0 with h0 | h0
   ·omega
   ·rw[h0] at h2;simp at h2
  ·rw[if_neg h0,roomX_fold ih t.l (r-1) (by omega)]
   have hnb:nodeX t=true:=by
    cases hb:nodeX t with
    | true=>rfl
    | false=>exact absurd (Or.inr hb) h0
   rw[hnb,Bool.and_true];split <;> split <;> (try omega)
   ·rename_i a b;exact absurd ⟨a.2.1,a.2.2.1,by omega⟩ b
   ·rename_i a b;exact absurd ⟨by omega,b.1,b.2.1,by omega⟩ a
noncomputable def okE (t:Ex):Bool:=decide (partsX 10 t<=100)&&t.okT
theorem okE_room (t:Ex):decide (0<=roomX 10 t 100)=okE t:=by
 obtain⟨h1,_⟩:=partsX_spec 10 t;rw[okE,roomX_spec 10 t 100 (by omega)];by_cases h:dpX 10 t=true/\t.okT=true/\(t.cnt:Int)<=100
 ·rw[if_pos h,decide_eq_true (h1.2 ⟨h.1,by omega⟩),h.2.1,decide_eq_true (by omega)];rfl
 ·rw[if_neg h]
  by_cases hp:partsX 10 t<=100
  ·have:=h1.1 hp
   have ho:t.okT=false:=by
    cases hb:t.okT with
    | true=>exact absurd ⟨this.1,hb,by omega⟩ h
    | false=>rfl
   rw[ho];simp
  ·rw[decide_eq_false hp];simp
theorem partsX_bd (f:Nat):∀ t,1<=partsX f t/\partsX f t<=101+100*f:=by
 induction f with
 | zero=>intro t;simp[partsX]
 | succ f ih =>
  intro t;have h:∀ (l:List Ex) (n:Nat),1<=n->n<=201+100*f->1<=l.foldl (partsXG (partsX f)) n/\l.foldl (partsXG (partsX f)) n<=201+100*f:=by
   intro l;induction l with
   | nil=>intro n h0 h1;exact⟨h0,h1⟩
   | cons x r ihl =>
    intro n h0 h1;rw[List.foldl_cons];apply ihl
    ·unfold partsXG;split <;> omega
    ·have:=(ih x).2
     unfold partsXG;split <;> omega
  have:=h t.l 1 (by omega) (by omega);rw[partsX];omega
theorem partsX_take {f:Nat} (l:List Ex) (k:Nat) (h:k<l.length):(l.take (k+1)).foldl (partsXG (partsX f)) 1=partsXG (partsX f) ((l.take k).foldl (partsXG (partsX f)) 1) l[k]:=by
 rw[List.take_succ_eq_append_getElem h,List.foldl_append];rfl
theorem partsX_stop {f:Nat} (l:List Ex):∀ n,100<n->l.foldl (partsXG (partsX f)) n=n:=by
 induction l with
 | nil=>intro n _;rfl
 | cons x r ih=>intro n h;rw[List.foldl_cons,partsXG,if_neg (by omega)];exact ih n h
theorem partsX_cut {f:Nat} (l:List Ex) (k:Nat) (h:100<(l.take k).foldl (partsXG (partsX f)) 1):l.foldl (partsXG (partsX f)) 1=(l.take k).foldl (partsXG (partsX f)) 1:=by
 conv=>lhs;rw[<- List.take_append_drop k l]
 rw[List.foldl_append];exact partsX_stop _ _ h
theorem roomX_take {f:Nat} (l:List Ex) (k:Nat) (r:Int) (h:k<l.length):(l.take (k+1)).foldl (roomXG (roomX f)) r=roomXG (roomX f) ((l.take k).foldl (roomXG (roomX f)) r) l[k]:=by
 rw[List.take_succ_eq_append_getElem h,List.foldl_append];rfl
theorem roomX_stop {f:Nat} (l:List Ex):l.foldl (roomXG (roomX f)) (-1) = -1:=by
 induction l with
 | nil=>rfl
 | cons x r ih=>rw[List.foldl_cons,roomXG,if_pos (by omega)];exact ih
theorem roomX_cut {f:Nat} (l:List Ex) (k:Nat) (r:Int) (h:(l.take k).foldl (roomXG (roomX f)) r = -1):l.foldl (roomXG (roomX f)) r = -1:=by
 conv=>lhs;rw[<- List.take_append_drop k l]
 rw[List.foldl_append,h];exact roomX_stop _
theorem roomX_bd (f:Nat) (t:Ex) (r:Int) (h:0<=r) : -1<=roomX f t r/\roomX f t r<=r:=by
 rw[roomX_spec f t r h];have:=cntX_pos t;split <;> omega
def St.ab (t:St):List St:=t.a++t.b
def hereK (k:Int) (s t:ByteArray) (nx na nb:Nat):Bool :=
 if k=1 then s.toList.isEmpty&&t.toList.isEmpty&&decide (1<=nx)&&decide (nx<=5)&&na==0&&nb==0
 else if k=2\/k=11 then nmB s&&t.toList.isEmpty&&nx==1&&na==0&&nb==0
 else if k=3 then nmB s&&t.toList.isEmpty&&nx==2&&na==0&&nb==0
 else if k=4 then s.toList.isEmpty&&t.toList.isEmpty&&nx==2&&na==0&&nb==0
 else if k=5 then s.toList.isEmpty&&t.toList.isEmpty&&nx==1
 else if k=6 then s.toList.isEmpty&&t.toList.isEmpty&&nx==1&&nb==0
 else if k=7 then nmB s&&nmB t&&nx==0&&nb==0
 else if k=8 then s.toList.isEmpty&&t.toList.isEmpty&&nx==0&&na==0&&nb==0
 else if k=9\/k=10\/k=12 then s.toList.isEmpty&&t.toList.isEmpty&&nx==1&&na==0&&nb==0
 else false
def callB (k:Int) (x:List Ex):Bool:=k != 12||x.all fun e=>e.k==11
noncomputable def nodeS (t:St):Bool:=t.x.all okE&&(hereK t.k t.s t.t t.x.length t.a.length t.b.length&&callB t.k t.x)
noncomputable def nodeP (t:St):Bool:=nodeS t&&(decide (t.a.length<60)&&decide (t.b.length<60))
mutual
noncomputable def St.okT:St->Bool
 | .node k s t x a b=>(okSL a&&okSL b)&&nodeS (.node k s t x a b)
noncomputable def okSL:List St->Bool
 | []=>true
 | t :: r=>t.okT&&okSL r
end
mutual
noncomputable def St.okP:St->Bool
 | .node k s t x a b=>(okPL a&&okPL b)&&nodeP (.node k s t x a b)
noncomputable def okPL:List St->Bool
 | []=>true
 | t :: r=>t.okP&&okPL r
end
mutual
def St.cnt:St->Nat
 | .node _ _ _ _ a b=>1+(cntSL a+cntSL b)
def cntSL:List St->Nat
 | []=>0
 | t :: r=>t.cnt+cntSL r
end
theorem okPL_app (a b:List St):okPL (a++b)=(okPL a&&okPL b):=by
 induction a with
 | nil=>simp[okPL]
 | cons t r ih=>simp[okPL,ih,Bool.and_assoc]
theorem cntSL_app (a b:List St):cntSL (a++b)=cntSL a+cntSL b:=by
 induction a with
 | nil=>simp[cntSL]
 | cons t r ih=>simp[cntSL,ih];omega
theorem okT_eq2 (t:St):t.okT=((okSL t.a&&okSL t.b)&&nodeS t):=by cases t;rw[St.okT];rfl
theorem okP_eq2 (t:St):t.okP=((okPL t.a&&okPL t.b)&&nodeP t):=by cases t;rw[St.okP];rfl
theorem okP_eq (t:St):t.okP=(okPL t.ab&&nodeP t):=by rw[okP_eq2,St.ab,okPL_app]
theorem cntS_eq (t:St):t.cnt=1+cntSL t.ab:=by rw[St.ab,cntSL_app];cases t;rw[St.cnt];rfl
theorem cntS_pos (t:St):1<=t.cnt:=by rw[cntS_eq];omega
theorem okSL_iff (l:List St):okSL l=true↔∀ x∈l,x.okT=true:=by
 induction l with
 | nil=>simp[okSL]
 | cons t r ih=>simp[okSL,ih]
theorem cntSL_len (l:List St):l.length<=cntSL l:=by
 induction l with
 | nil=>simp
 | cons t r ih=>have:=cntS_pos t;simp only[List.length_cons,cntSL];omega
theorem cntSL_mem {y:St} {l:List St} (h:y∈l):y.cnt<=cntSL l:=by
 induction l with
 | nil=>cases h
 | cons t r ih =>
  rw[cntSL];rcases List.mem_cons.1 h with rfl | h
  ·omega
  ·have:=ih h;omega
theorem okPL_okSL {l:List St} (ih:∀ y∈l,y.okP=y.okT):okPL l=okSL l:=by
 induction l with
 | nil=>rfl
 | cons t r ihl=>rw[okPL,okSL,ih t (by simp),ihl fun y hy=>ih y (by simp[hy])]
theorem okP_okT (t:St):t.cnt<=60->t.okP=t.okT:=by
 refine St.ind (P:=fun t=>t.cnt<=60->t.okP=t.okT) (fun t iha ihb=>?_) t;intro h;rw[cntS_eq,St.ab,cntSL_app] at h;have ha:=cntSL_len t.a;have hb:=cntSL_len t.b;rw[okP_eq2,okT_eq2,okPL_okSL fun y hy=>iha y hy (by have:=cntSL_mem hy;omega),okPL_okSL fun y hy=>ihb y hy (by have:=cntSL_mem hy;omega)];rw[nodeP,decide_eq_true (by omega),decide_eq_true (by omega)];simp
def dpS:Nat->St->Bool
 | 0,_=>false
 | f+1,t=>t.ab.all (dpS f)
def partsSG (g:St->Nat) (n:Nat) (x:St):Nat:=if n<=60 then n+g x else n
def partsS:Nat->St->Nat
 | 0,_=>61
 | f+1,t=>t.ab.foldl (partsSG (partsS f)) 1
def roomSG (g:St->Int->Int) (q:Int) (x:St):Int:=if q<0 then -1 else g x q
noncomputable def roomS:Nat->St->Int->Int
 | 0,_,_ => -1
 | f+1,t,r=>if r=0\/nodeP t=false then -1 else t.ab.foldl (roomSG (roomS f)) (r-1)
theorem partsS_fold {f:Nat} (ih:∀ t,(partsS f t<=60↔dpS f t=true/\t.cnt<=60)/\(partsS f t<=60->partsS f t=t.cnt)) (l:List St) :
  ∀ n,(l.foldl (partsSG (partsS f)) n<=60↔n<=60/\l.all (dpS f)=true/\n+cntSL l<=60)/\(l.foldl (partsSG (partsS f)) n<=60->l.foldl (partsSG (partsS f)) n=n+cntSL l):=by
 induction l with
 | nil=>intro n;simp[cntSL]
 | cons t r ihl =>
  intro n;rw[List.foldl_cons,List.all_cons,cntSL];obtain⟨h1,h2⟩:=ihl (partsSG (partsS f) n t);obtain⟨i1,i2⟩:=ih t;by_cases hn:n<=60
  ·have hg:partsSG (partsS f) n t=n+partsS f t:=by rw[partsSG,if_pos hn]
   rw[hg] at h1 h2 |-;by_cases hp:partsS f t<=60
   ·have e:=i2 hp
    obtain⟨d,c⟩:=i1.1 hp;rw[e] at h1 h2 |-;constructor
    ·rw[h1,d,Bool.true_and]
     exact⟨fun h=>⟨hn,h.2.1,by omega⟩,fun h=>⟨by omega,h.2.1,by omega⟩⟩
    ·intro h;rw[h2 h];omega
   ·have hnd:¬ (dpS f t=true/\t.cnt<=60):=fun h=>hp (i1.2 h)
    constructor
    ·rw[h1]
     constructor
     ·intro h;omega
     ·intro h
      exfalso
      apply hnd
      have hd:dpS f t=true:=(by have:=h.2.1;simp only[Bool.and_eq_true] at this;exact this.1);exact⟨hd,by omega⟩
    ·intro h;have:=h1.1 h;omega
  ·have hg:partsSG (partsS f) n t=n:=by rw[partsSG,if_neg hn]
   rw[hg] at h1 h2 |-;constructor
   ·rw[h1]
    constructor
    ·intro h;omega
    ·intro h;omega
   ·intro h;have:=h1.1 h;omega
theorem partsS_spec (f:Nat):∀ t,(partsS f t<=60↔dpS f t=true/\t.cnt<=60)/\(partsS f t<=60->partsS f t=t.cnt):=by
 induction f with
 | zero=>intro t;simp[partsS,dpS]
 | succ f ih =>
  intro t;obtain⟨h1,h2⟩:=partsS_fold ih t.ab 1;rw[partsS,dpS,cntS_eq];constructor
  ·rw[h1]
   constructor
   ·intro h;exact⟨h.2.1,h.2.2⟩
   ·intro h;exact⟨by omega,h.1,h.2⟩
  ·exact h2
theorem roomS_fold {f:Nat} (ih:∀ t r,0<=r->roomS f t r=if dpS f t=true/\t.okP=true/\(t.cnt:Int)<=r then r-t.cnt else -1) (l:List St) :
  ∀ q:Int,-1<=q->l.foldl (roomSG (roomS f)) q=if 0<=q/\l.all (dpS f)=true/\okPL l=true/\(cntSL l:Int)<=q then q-cntSL l else -1:=by
 induction l with
 | nil=>intro q hq;simp[cntSL,okPL];omega
 | cons t r ihl =>
  intro q hq;rw[List.foldl_cons,List.all_cons,cntSL,okPL];by_cases h0:q<0
  ·have hg:roomSG (roomS f) q t = -1:=by rw[roomSG,if_pos h0]
   rw[hg,ihl (-1) (by omega),if_neg (by omega),if_neg (by omega)]
  ·have hg:roomSG (roomS f) q t=roomS f t q:=by rw[roomSG,if_neg h0]
   rw[hg,ih t q (by omega)];by_cases hc:dpS f t=true/\t.okP=true/\(t.cnt:Int)<=q
   ·rw[if_pos hc,ihl _ (by omega)]
    obtain⟨d,o,c⟩:=hc;simp only[d,o,Bool.true_and];split <;> split <;> (try omega)
    ·rename_i a b;exact absurd ⟨by omega,a.2.1,a.2.2.1,by omega⟩ b
    ·rename_i a b;exact absurd ⟨by omega,b.2.1,b.2.2.1,by omega⟩ a
   ·rw[if_neg hc,ihl (-1) (by omega),if_neg (by omega),if_neg]
    intro h;apply hc
    have hd:=h.2.1;have ho:=h.2.2.1;simp only[Bool.and_eq_true] at hd ho;exact⟨hd.1,ho.1,by omega⟩
theorem roomS_spec (f:Nat):∀ t r,0<=r->roomS f t r=if dpS f t=true/\t.okP=true/\(t.cnt:Int)<=r then r-t.cnt else -1:=by
 induction f with
 | zero=>intro t r _;simp[roomS,dpS]
 | succ f ih =>
  intro t r hr;rw[roomS,dpS,cntS_eq,okP_eq];by_cases h0:r=0\/nodeP t=false
  ·rw[if_pos h0,if_neg]
   rintro⟨_,h2,h3⟩;rcases h0 with h0 | h0
   ·omega
   ·rw[h0] at h2;simp at h2
  ·rw[if_neg h0,roomS_fold ih t.ab (r-1) (by omega)]
   have hnb:nodeP t=true:=by
    cases hb:nodeP t with
    | true=>rfl
    | false=>exact absurd (Or.inr hb) h0
   rw[hnb,Bool.and_true];split <;> split <;> (try omega)
   ·rename_i a b;exact absurd ⟨a.2.1,a.2.2.1,by omega⟩ b
   ·rename_i a b;exact absurd ⟨by omega,b.1,b.2.1,by omega⟩ a
noncomputable def okS (t:St):Bool:=decide (partsS 5 t<=60)&&t.okT
theorem okS_room (t:St):decide (0<=roomS 5 t 60)=okS t:=by
 obtain⟨h1,_⟩:=partsS_spec 5 t;rw[okS,roomS_spec 5 t 60 (by omega)];by_cases h:dpS 5 t=true/\t.okP=true/\(t.cnt:Int)<=60
 ·rw[if_pos h,decide_eq_true (h1.2 ⟨h.1,by omega⟩),<- okP_okT t (by omega),h.2.1,decide_eq_true (by omega)];rfl
 ·rw[if_neg h]
  by_cases hp:partsS 5 t<=60
  ·have:=h1.1 hp
   have ho:t.okT=false:=by
    cases hb:t.okT with
    | true=>exact absurd ⟨this.1,by rw[okP_okT t this.2];exact hb,by omega⟩ h
    | false=>rfl
   rw[ho];simp
  ·rw[decide_eq_false hp];simp
theorem partsS_bd (f:Nat):∀ t,1<=partsS f t/\partsS f t<=61+60*f:=by
 induction f with
 | zero=>intro t;simp[partsS]
 | succ f ih =>
  intro t;have h:∀ (l:List St) (n:Nat),1<=n->n<=121+60*f->1<=l.foldl (partsSG (partsS f)) n/\l.foldl (partsSG (partsS f)) n<=121+60*f:=by
   intro l;induction l with
   | nil=>intro n h0 h1;exact⟨h0,h1⟩
   | cons x r ihl =>
    intro n h0 h1;rw[List.foldl_cons];apply ihl
    ·unfold partsSG;split <;> omega
    ·have:=(ih x).2
     unfold partsSG;split <;> omega
  have:=h t.ab 1 (by omega) (by omega);rw[partsS];omega
theorem partsS_stop {f:Nat} (l:List St):∀ n,60<n->l.foldl (partsSG (partsS f)) n=n:=by
 induction l with
 | nil=>intro n _;rfl
 | cons x r ih=>intro n h;rw[List.foldl_cons,partsSG,if_neg (by omega)];exact ih n h
theorem roomS_take {f:Nat} (l:List St) (k:Nat) (r:Int) (h:k<l.length):(l.take (k+1)).foldl (roomSG (roomS f)) r=roomSG (roomS f) ((l.take k).foldl (roomSG (roomS f)) r) l[k]:=by
 rw[List.take_succ_eq_append_getElem h,List.foldl_append];rfl
theorem roomS_stop {f:Nat} (l:List St):l.foldl (roomSG (roomS f)) (-1) = -1:=by
 induction l with
 | nil=>rfl
 | cons x r ih=>rw[List.foldl_cons,roomSG,if_pos (by omega)];exact ih
theorem roomS_cut {f:Nat} (l:List St) (k:Nat) (r:Int) (h:(l.take k).foldl (roomSG (roomS f)) r = -1):l.foldl (roomSG (roomS f)) r = -1:=by
 conv=>lhs;rw[<- List.take_append_drop k l]
 rw[List.foldl_append,h];exact roomS_stop _
theorem roomS_bd (f:Nat) (t:St) (r:Int) (h:0<=r) : -1<=roomS f t r/\roomS f t r<=r:=by
 rw[roomS_spec f t r h];have:=cntS_pos t;split <;> omega
def Cur (w:World) (cb:Nat) (v:Value) (zs:List Int):Prop :=
 Bs w v zs/\zs.length<=1048576/\(zs≠[]->∀ k,v.ownBlock=some k->k≠cb) /\
  ∃ i h:Int,0<=i/\i<=zs.length/\w.heap[cb]?=some (.cells #[v,.int .i64 i,.int .i64 h] 91 (0,0))
theorem grownBy_trans {a b c:World} {row:Option Nat} (h:a.grownBy b row) (k:b.grownBy c row):a.grownBy c row :=
 ⟨k.os.trans h.os,k.tape.trans h.tape,k.output.trans h.output,Nat.le_trans h.size k.size,fun j hj hne=>(k.block j (Nat.lt_of_lt_of_le hj h.size) hne).trans (h.block j hj hne)⟩
def Nums (w:World) (lb:Nat) (xs:List Int):Prop:=w.heap[lb]?=some (.cells (xs.map (Value.int .i64)).toArray 3 (0,0))
def Strs (w:World) (lb:Nat) (xs:List ByteArray):Prop:=w.heap[lb]?=some (.cells (xs.map Value.string).toArray 9 (0,0))
theorem wd_yes {s:ByteArray} {l:List UInt8} (h:(s.toList==l)=true) (hl:wordsL.contains l=true):wdB s=true:=by
 unfold wdB;rw[eq_of_beq h];exact hl
theorem op_yes {s:ByteArray} {l:List UInt8} (h:(s.toList==l)=true) (hl:opsL.contains l=true):opB s=true:=by
 unfold opB;rw[eq_of_beq h];exact hl
theorem isWord_any (s:ByteArray) (w:World):Calls Tryz.prog 119 #[.string s] w fun r w'=>r=.returned (.bool (wdB s))/\w'=w:=by
 cases h0:(s.toList==[98,101,103,105,110]) with
 | true =>
  have H:=Hid.mk (wd_yes h0 rfl);go_enter Tryz.func119,Tryz.ntmps119
  go_wp2;go_ret;exact⟨ret_tb H.out.symm,rfl⟩
 | false =>
 cases h1:(s.toList==[101,110,100]) with
 | true =>
  have H:=Hid.mk (wd_yes h1 rfl);go_enter Tryz.func119,Tryz.ntmps119
  go_wp2;go_ret;exact⟨ret_tb H.out.symm,rfl⟩
 | false =>
 cases h2:(s.toList==[102,117,110,99]) with
 | true =>
  have H:=Hid.mk (wd_yes h2 rfl);go_enter Tryz.func119,Tryz.ntmps119
  go_wp2;go_ret;exact⟨ret_tb H.out.symm,rfl⟩
 | false =>
 cases h3:(s.toList==[112,114,105,110,116]) with
 | true =>
  have H:=Hid.mk (wd_yes h3 rfl);go_enter Tryz.func119,Tryz.ntmps119
  go_wp2;go_ret;exact⟨ret_tb H.out.symm,rfl⟩
 | false =>
 cases h4:(s.toList==[105,102]) with
 | true =>
  have H:=Hid.mk (wd_yes h4 rfl);go_enter Tryz.func119,Tryz.ntmps119
  go_wp2;go_ret;exact⟨ret_tb H.out.symm,rfl⟩
 | false =>
 cases h5:(s.toList==[101,108,115,101]) with
 | true =>
  have H:=Hid.mk (wd_yes h5 rfl);go_enter Tryz.func119,Tryz.ntmps119
  go_wp2;go_ret;exact⟨ret_tb H.out.symm,rfl⟩
 | false =>
 cases h6:(s.toList==[119,104,105,108,101]) with
 | true =>
  have H:=Hid.mk (wd_yes h6 rfl);go_enter Tryz.func119,Tryz.ntmps119
  go_wp2;go_ret;exact⟨ret_tb H.out.symm,rfl⟩
 | false =>
 cases h7:(s.toList==[102,111,114]) with
 | true =>
  have H:=Hid.mk (wd_yes h7 rfl);go_enter Tryz.func119,Tryz.ntmps119
  go_wp2;go_ret;exact⟨ret_tb H.out.symm,rfl⟩
 | false =>
 cases h8:(s.toList==[105,110]) with
 | true =>
  have H:=Hid.mk (wd_yes h8 rfl);go_enter Tryz.func119,Tryz.ntmps119
  go_wp2;go_ret;exact⟨ret_tb H.out.symm,rfl⟩
 | false =>
 cases h9:(s.toList==[110,101,120,116]) with
 | true =>
  have H:=Hid.mk (wd_yes h9 rfl);go_enter Tryz.func119,Tryz.ntmps119
  go_wp2;go_ret;exact⟨ret_tb H.out.symm,rfl⟩
 | false =>
 cases h10:(s.toList==[101,120,105,116]) with
 | true =>
  have H:=Hid.mk (wd_yes h10 rfl);go_enter Tryz.func119,Tryz.ntmps119
  go_wp2;go_ret;exact⟨ret_tb H.out.symm,rfl⟩
 | false =>
 cases h11:(s.toList==[114,101,116,117,114,110]) with
 | true =>
  have H:=Hid.mk (wd_yes h11 rfl);go_enter Tryz.func119,Tryz.ntmps119
  go_wp2;go_ret;exact⟨ret_tb H.out.symm,rfl⟩
 | false =>
 cases h12:(s.toList==[100,101,108,101,116,101]) with
 | true =>
  have H:=Hid.mk (wd_yes h12 rfl);go_enter Tryz.func119,Tryz.ntmps119
  go_wp2;go_ret;exact⟨ret_tb H.out.symm,rfl⟩
 | false =>
 cases h13:(s.toList==[108,101,110,103,116,104]) with
 | true =>
  have H:=Hid.mk (wd_yes h13 rfl);go_enter Tryz.func119,Tryz.ntmps119
  go_wp2;go_ret;exact⟨ret_tb H.out.symm,rfl⟩
 | false =>
 cases h14:(s.toList==[115,117,98,115,116,114]) with
 | true =>
  have H:=Hid.mk (wd_yes h14 rfl);go_enter Tryz.func119,Tryz.ntmps119
  go_wp2;go_ret;exact⟨ret_tb H.out.symm,rfl⟩
 | false =>
 cases h15:(s.toList==[105,110,100,101,120]) with
 | true =>
  have H:=Hid.mk (wd_yes h15 rfl);go_enter Tryz.func119,Tryz.ntmps119
  go_wp2;go_ret;exact⟨ret_tb H.out.symm,rfl⟩
 | false =>
 cases h16:(s.toList==[117,112,112,101,114]) with
 | true =>
  have H:=Hid.mk (wd_yes h16 rfl);go_enter Tryz.func119,Tryz.ntmps119
  go_wp2;go_ret;exact⟨ret_tb H.out.symm,rfl⟩
 | false =>
 cases h17:(s.toList==[103,115,117,98]) with
 | true =>
  have H:=Hid.mk (wd_yes h17 rfl);go_enter Tryz.func119,Tryz.ntmps119
  go_wp2;go_ret;exact⟨ret_tb H.out.symm,rfl⟩
 | false =>
 cases h18:(s.toList==[110,114]) with
 | true =>
  have H:=Hid.mk (wd_yes h18 rfl);go_enter Tryz.func119,Tryz.ntmps119
  go_wp2;go_ret;exact⟨ret_tb H.out.symm,rfl⟩
 | false =>
 cases h19:(s.toList==[110,102]) with
 | true =>
  have H:=Hid.mk (wd_yes h19 rfl);go_enter Tryz.func119,Tryz.ntmps119
  go_wp2;go_ret;exact⟨ret_tb H.out.symm,rfl⟩
 | false =>
 have H:Hid (wdB s=false):=by
  show _=_
  unfold wdB wordsL;simp only[List.contains,List.elem,h0,h1,h2,h3,h4,h5,h6,h7,h8,h9,h10,h11,h12,h13,h14,h15,h16,h17,h18,h19]
 go_enter Tryz.func119,Tryz.ntmps119
 go_wp2;go_ret;exact⟨ret_tb H.out.symm,rfl⟩
theorem isSignOfTwo_any (s:ByteArray) (w:World):Calls Tryz.prog 243 #[.string s] w fun r w'=>r=.returned (.bool (opB s))/\w'=w:=by
 cases h0:(s.toList==[43]) with
 | true =>
  have H:=Hid.mk (op_yes h0 rfl);go_enter Tryz.func243,Tryz.ntmps243
  go_wp2;go_ret;exact⟨ret_tb H.out.symm,rfl⟩
 | false =>
 cases h1:(s.toList==[45]) with
 | true =>
  have H:=Hid.mk (op_yes h1 rfl);go_enter Tryz.func243,Tryz.ntmps243
  go_wp2;go_ret;exact⟨ret_tb H.out.symm,rfl⟩
 | false =>
 cases h2:(s.toList==[42]) with
 | true =>
  have H:=Hid.mk (op_yes h2 rfl);go_enter Tryz.func243,Tryz.ntmps243
  go_wp2;go_ret;exact⟨ret_tb H.out.symm,rfl⟩
 | false =>
 cases h3:(s.toList==[47]) with
 | true =>
  have H:=Hid.mk (op_yes h3 rfl);go_enter Tryz.func243,Tryz.ntmps243
  go_wp2;go_ret;exact⟨ret_tb H.out.symm,rfl⟩
 | false =>
 cases h4:(s.toList==[37]) with
 | true =>
  have H:=Hid.mk (op_yes h4 rfl);go_enter Tryz.func243,Tryz.ntmps243
  go_wp2;go_ret;exact⟨ret_tb H.out.symm,rfl⟩
 | false =>
 cases h5:(s.toList==[46]) with
 | true =>
  have H:=Hid.mk (op_yes h5 rfl);go_enter Tryz.func243,Tryz.ntmps243
  go_wp2;go_ret;exact⟨ret_tb H.out.symm,rfl⟩
 | false =>
 cases h6:(s.toList==[60]) with
 | true =>
  have H:=Hid.mk (op_yes h6 rfl);go_enter Tryz.func243,Tryz.ntmps243
  go_wp2;go_ret;exact⟨ret_tb H.out.symm,rfl⟩
 | false =>
 cases h7:(s.toList==[60,61]) with
 | true =>
  have H:=Hid.mk (op_yes h7 rfl);go_enter Tryz.func243,Tryz.ntmps243
  go_wp2;go_ret;exact⟨ret_tb H.out.symm,rfl⟩
 | false =>
 cases h8:(s.toList==[61,61]) with
 | true =>
  have H:=Hid.mk (op_yes h8 rfl);go_enter Tryz.func243,Tryz.ntmps243
  go_wp2;go_ret;exact⟨ret_tb H.out.symm,rfl⟩
 | false =>
 cases h9:(s.toList==[33,61]) with
 | true =>
  have H:=Hid.mk (op_yes h9 rfl);go_enter Tryz.func243,Tryz.ntmps243
  go_wp2;go_ret;exact⟨ret_tb H.out.symm,rfl⟩
 | false =>
 cases h10:(s.toList==[62]) with
 | true =>
  have H:=Hid.mk (op_yes h10 rfl);go_enter Tryz.func243,Tryz.ntmps243
  go_wp2;go_ret;exact⟨ret_tb H.out.symm,rfl⟩
 | false =>
 cases h11:(s.toList==[62,61]) with
 | true =>
  have H:=Hid.mk (op_yes h11 rfl);go_enter Tryz.func243,Tryz.ntmps243
  go_wp2;go_ret;exact⟨ret_tb H.out.symm,rfl⟩
 | false =>
 cases h12:(s.toList==[38,38]) with
 | true =>
  have H:=Hid.mk (op_yes h12 rfl);go_enter Tryz.func243,Tryz.ntmps243
  go_wp2;go_ret;exact⟨ret_tb H.out.symm,rfl⟩
 | false =>
 cases h13:(s.toList==[124,124]) with
 | true =>
  have H:=Hid.mk (op_yes h13 rfl);go_enter Tryz.func243,Tryz.ntmps243
  go_wp2;go_ret;exact⟨ret_tb H.out.symm,rfl⟩
 | false =>
 have H:Hid (opB s=false):=by
  show _=_
  unfold opB opsL;simp only[List.contains,List.elem,h0,h1,h2,h3,h4,h5,h6,h7,h8,h9,h10,h11,h12,h13]
 go_enter Tryz.func243,Tryz.ntmps243
 go_wp2;go_ret;exact⟨ret_tb H.out.symm,rfl⟩
def hasB (xs:List ByteArray) (s:ByteArray):Bool:=xs.any fun x=>x.toList==s.toList
theorem hasB_yes {xs:List ByteArray} {s:ByteArray} {k:Nat} (h:k<xs.length) (hk:(xs[k].toList==s.toList)=true):hasB xs s=true:=List.any_eq_true.2 ⟨_,List.getElem_mem h,hk⟩
theorem hasB_no {xs:List ByteArray} {s:ByteArray} (h:∀ j (hj:j<xs.length),(xs[j].toList==s.toList)=false):hasB xs s=false:=by
 unfold hasB;rw[List.any_eq_false];intro x hx;obtain⟨j,hj,rfl⟩:=List.getElem_of_mem hx;rw[h j hj];simp
def wordsS:List ByteArray:=[⟨#[98,101,103,105,110]⟩,⟨#[101,110,100]⟩,⟨#[102,117,110,99]⟩,⟨#[112,114,105,110,116]⟩,⟨#[105,102]⟩,⟨#[101,108,115,101]⟩,⟨#[119,104,105,108,101]⟩,⟨#[102,111,114]⟩,⟨#[105,110]⟩,⟨#[110,101,120,116]⟩,⟨#[101,120,105,116]⟩,⟨#[114,101,116,117,114,110]⟩,⟨#[100,101,108,101,116,101]⟩,⟨#[108,101,110,103,116,104]⟩,⟨#[115,117,98,115,116,114]⟩,⟨#[105,110,100,101,120]⟩,⟨#[117,112,112,101,114]⟩,⟨#[103,115,117,98]⟩,⟨#[110,114]⟩,⟨#[110,102]⟩]
def opsS:List ByteArray:=[⟨#[43]⟩,⟨#[45]⟩,⟨#[42]⟩,⟨#[47]⟩,⟨#[37]⟩,⟨#[46]⟩,⟨#[60]⟩,⟨#[60,61]⟩,⟨#[61,61]⟩,⟨#[33,61]⟩,⟨#[62]⟩,⟨#[62,61]⟩,⟨#[38,38]⟩,⟨#[124,124]⟩]
theorem hasB_map (xs:List ByteArray) (s:ByteArray):hasB xs s=(xs.map fun x=>x.toList).contains s.toList:=by
 unfold hasB;induction xs with
 | nil=>rfl
 | cons x r ih =>
  rw[List.any_cons,ih,List.map_cons,List.contains_cons];congr 1
  exact Bool.eq_iff_iff.2 (by simp only[beq_iff_eq];exact eq_comm)
theorem words_has (s:ByteArray):hasB wordsS s=wdB s:=by
 rw[hasB_map];have e:wordsS.map (fun x=>x.toList)=wordsL:=by simp only[wordsS,wordsL,List.map_cons,List.map_nil,ByteArray.toList_eq]
 rw[e];rfl
theorem ops_has (s:ByteArray):hasB opsS s=opB s:=by
 rw[hasB_map];have e:opsS.map (fun x=>x.toList)=opsL:=by simp only[opsS,opsL,List.map_cons,List.map_nil,ByteArray.toList_eq]
 rw[e];rfl
theorem l8Has_any (xs:List ByteArray) (lb n:Nat) (s:ByteArray) (w:World) (hx:Strs w lb xs) (hn:n=xs.length) (hbig:n<=1000) :
  Calls Tryz.prog 74 #[.slice (some ⟨lb,0,none⟩) n n,.string s] w fun e w'=>e=.returned (.bool (hasB xs s))/\w'=w:=by
 have HC:Hid (∀ k (h:k<xs.length),w.cell? ⟨lb,k,none⟩=some (.string xs[k])):=fun k h=>by
  rw[cell_of_row w lb k _ _ (0,0) hx,List.getElem?_toArray,List.getElem?_map,List.getElem?_eq_getElem h];rfl
 have HY:=Hid.mk (fun k h hk=>hasB_yes (xs:=xs) (s:=s) (k:=k) h hk);have HN:=Hid.mk (fun h=>hasB_no (xs:=xs) (s:=s) h);have HL:=Hid.mk hn;obtain⟨R,hR⟩:∃ R,hasB xs s=R:=⟨_,rfl⟩;rw[hR] at HY HN |-;clear hR hx hn;go_enter Tryz.func74,Tryz.ntmps74
 go_wp2;go_loop [5] (fun i=>∃ k:Nat,i=.int .i64 k/\k<=n/\Hid (∀ j (hj:j<xs.length),j<k->(xs[j].toList==s.toList)=false)) (fun i=>n-(intOf i).toNat)
 case atStart=>exact⟨0,rfl,Nat.zero_le _,fun j _ hj=>by omega⟩
 case round =>
  obtain⟨k,rfl,hk,HA⟩:=hrel;by_cases hlt:k<n
  ·have hki:(k:Int)<(n:Int):=by omega
   have hkx:k<xs.length:=(by have:=HL.out;omega);have c0:=HC.out k hkx;cases h:(xs[k].toList==s.toList) with
   | true =>
    have HF:=Hid.mk (HY.out k hkx h);generalize xs[k]=x at c0 h;clear HA HY HN;go_wp2;go_ret;exact⟨ret_tb HF.out.symm,rfl⟩
   | false =>
    have HA2:Hid (∀ j (hj:j<xs.length),j<k+1->(xs[j].toList==s.toList)=false):=fun j hj hj1=>by
     by_cases e:j=k
     ·subst e;exact h
     ·exact HA.out j hj (by omega)
    generalize xs[k]=x at c0 h;clear HA HY HN;go_wp2;go_round
    case rel=>exact⟨k+1,by go_num,by omega,HA2⟩
    case measure=>simp[intOf];omega
  ·have HF:=Hid.mk (HN.out fun j hj=>HA.out j hj (by have:=HL.out;omega))
   have hki:¬ (k:Int)<(n:Int):=(by omega);clear HA HY HN;go_wp2;go_ret;exact⟨ret_tb HF.out.symm,rfl⟩
theorem l8Words_any (w:World):Calls Tryz.prog 107 #[] w fun e w'=>e=.returned (.slice (some ⟨w.heap.size,0,none⟩) 20 20)/\Strs w' w.heap.size wordsS/\Below w.heap.size w w':=by
 go_enter Tryz.func107,Tryz.ntmps107
 go_wp2;go_ret;exact⟨rfl,heap_alloc_new _ _,(Below.refl _ _).alloc (Nat.le_refl _) _⟩
theorem l8Ops_any (w:World):Calls Tryz.prog 130 #[] w fun e w'=>e=.returned (.slice (some ⟨w.heap.size,0,none⟩) 14 14)/\Strs w' w.heap.size opsS/\Below w.heap.size w w':=by
 go_enter Tryz.func130,Tryz.ntmps130
 go_wp2;go_ret;exact⟨rfl,heap_alloc_new _ _,(Below.refl _ _).alloc (Nat.le_refl _) _⟩
theorem implNameOk_any (s:ByteArray) (w:World) (hs:s.size<=maxLen):Calls Tryz.prog 78 #[.string s] w fun e w'=>e=.returned (.bool (nmB s))/\w'=w:=by
 have HN:=Hid.mk (fun w=>isName_any s w hs);have HW:=Hid.mk (fun w=>isWord_any s w);have HR:Hid (nmB s=(nameB s&&!wdB s)):=rfl;generalize nmB s=R at *;generalize nameB s=a at *;generalize wdB s=b at *;clear hs;cases a with
 | false =>
  go_enter Tryz.func78,Tryz.ntmps78
  go_wp2_with fail
  refine(HN.out _).mono ?_;rintro e w' ⟨rfl,rfl⟩;go_wp2;go_ret;exact⟨ret_tb (HR.out.trans rfl).symm,rfl⟩
 | true =>
  go_enter Tryz.func78,Tryz.ntmps78
  go_wp2_with fail
  refine(HN.out _).mono ?_;rintro e w' ⟨rfl,rfl⟩;go_wp2_with fail
  refine(HW.out _).mono ?_;rintro e w' ⟨rfl,rfl⟩;go_wp2;go_ret;exact⟨ret_tb (HR.out.trans (by simp)).symm,rfl⟩
theorem specNameOk_any (s:ByteArray) (w:World) (hs:s.size<=maxLen):Calls Tryz.prog 69 #[.string s] w fun e w'=>e=.returned (.bool (nmB s))/\Below w.heap.size w w':=by
 have HN:=Hid.mk (fun w=>l7Word_any s w hs);have HH:=Hid.mk (fun w' (h:Strs w' w.heap.size wordsS)=>l8Has_any wordsS w.heap.size 20 s w' h rfl (by omega));have HR:Hid (nmB s=(nameB s&&!wdB s)):=rfl;have RB:Below w.heap.size w w:=Below.refl _ _;rw[words_has] at HH;generalize nmB s=R at *;generalize nameB s=a at *;generalize wdB s=b at *;clear hs;cases a with
 | false =>
  go_enter Tryz.func69,Tryz.ntmps69
  go_wp2_with fail
  refine(HN.out _).mono ?_;rintro e w' ⟨rfl,rfl⟩;go_wp2;go_ret;exact⟨ret_tb (HR.out.trans rfl).symm,RB⟩
 | true =>
  go_enter Tryz.func69,Tryz.ntmps69
  go_wp2_with fail
  refine(HN.out _).mono ?_;rintro e w' ⟨rfl,hw⟩;subst hw;go_wp2_with fail
  refine(l8Words_any _).mono ?_;rintro e w2 ⟨rfl,hs2,hb2⟩;have HS2:=Hid.mk hs2;have HB2:=Hid.mk hb2;clear hs2 hb2;go_wp2_with fail
  refine(HH.out _ HS2.out).mono ?_;rintro e w3 ⟨rfl,rfl⟩;go_wp2;go_ret;exact⟨ret_tb (HR.out.trans (by simp)).symm,HB2.out⟩
end Go.Proofs.YtkbijjkgfojchaaGreat
