/- Whether two terms are the same,by the laws' own function: two that read the same tree are. .. -/
import Derived.Test.YtkbijjkgfojchaaGreatQRun27
import Derived.Maps.RangeWalk
import Derived.Maps.OwnSet
namespace Go.Proofs.YtkbijjkgfojchaaGreat
open Go.RowKit
set_option maxRecDepth 8000
def EqX (l:List Ex):Prop:=∀ (B C:Nat->Prop) (v u:Value) (w:World),El w B l v->El w C l u ->
 Calls Tryz.prog 163 #[v,u] w fun e w'=>e=.returned (.bool true)/\Below w.heap.size w w'
theorem eqExpr_of (t:Ex) (ih:EqX t.l) (B C:Nat->Prop) (v u:Value) (w:World) (h:El w B t.l v) (h':El w C t.l u) :
  Calls Tryz.prog 127 #[xx t.k t.n t.s v,xx t.k t.n t.s u] w fun e w'=>e=.returned (.bool true)/\Below w.heap.size w w':=by
 obtain⟨k,hk⟩:∃ k,t.k=k:=⟨_,rfl⟩;obtain⟨n,hnn⟩:∃ n,t.n=n:=⟨_,rfl⟩;obtain⟨s,hsn⟩:∃ s,t.s=s:=⟨_,rfl⟩;obtain⟨l,hln⟩:∃ l,t.l=l:=⟨_,rfl⟩;rw[hk,hnn,hsn];rw[hln] at h h' ih;clear hk hnn hsn hln;have B0:Below w.heap.size w ((w.alloc (.cells #[.int .i64 k,.int .i64 n,.string s,v] 54)).alloc (.cells #[.int .i64 k,.int .i64 n,.string s,u] 54)):=((Below.refl _ _).alloc (Nat.le_refl _) _).alloc (by simp) _;have HI:=Hid.mk ih;have H1:=Hid.mk (h.grow B0);have H2:=Hid.mk (h'.grow B0);obtain⟨ao,cap,rfl,hl1,hl2,hl3⟩:=h.len;obtain⟨ao',cap',rfl,hl1',hl2',hl3'⟩:=h'.len;have hkk:(k != k)=false:=by simp
 have hn2:(n != n)=false:=by simp
 have hss:(s.toList != s.toList)=false:=by simp
 clear ih h h' hl1 hl2 hl3 hl1' hl2' hl3';go_enter Tryz.func127,Tryz.ntmps127
 go_wp2_with fail
 refine(HI.out _ _ _ _ _ H1.out H2.out).mono ?_;rintro e w1 ⟨rfl,hb1⟩;have B1:=B0.trans (hb1.mono (by simp;omega));clear B0 hb1 HI H1 H2;go_wp2;go_ret;exact⟨rfl,B1⟩
theorem eqExprS_step (l:List Ex) (ih:∀ x∈l,EqX x.l):EqX l:=by
 intro B C v u w h h';obtain⟨ao,cap,rfl,hl1,hl2,hl3⟩:=h.len;obtain⟨ao',cap',rfl,hl1',hl2',hl3'⟩:=h'.len;have hm:cap<=9223372036854775807:=by unfold maxLen at hl2;omega
 have HI:=Hid.mk ih;have H1:=Hid.mk h;have H2:=Hid.mk h';clear ih h h' hl2 hl2';go_enter Tryz.func163,Tryz.ntmps163
 go_wp2;go_loopw [5] (fun i wr=>∃ (k:Nat),k<=l.length/\i=.int .i64 k/\Below w.heap.size w wr) (fun i _=>l.length-(intOf i).toNat)
 case atStart=>exact⟨0,Nat.zero_le _,rfl,Below.refl _ _⟩
 case round =>
  obtain⟨k,hk,rfl,hbel⟩:=hrel;by_cases hkl:k<l.length
  ·obtain⟨b,off,V,rfl,hel⟩:=H1.out.elems (by intro hn;rw[hn] at hkl;simp at hkl)
   obtain⟨b',off',V',rfl,hel'⟩:=H2.out.elems (by intro hn;rw[hn] at hkl;simp at hkl);obtain⟨h3,hsub,hss⟩:=hel k hkl;obtain⟨h3',hsub',_⟩:=hel' k hkl;have hsz:EqX l[k].l:=HI.out _ (List.getElem_mem hkl);obtain⟨t,ht⟩:∃ t,l[k]=t:=⟨_,rfl⟩;rw[ht] at h3 hsub h3' hsub' hsz;clear ht hel hel' hss;obtain⟨c0,cn,c1,c2⟩:=h3.kept (w':=wr) (hbel.block b (World.block_lt_of_cell? w _ h3.1));obtain⟨d0,dn,d1,d2⟩:=h3'.kept (w':=wr) (hbel.block b' (World.block_lt_of_cell? w _ h3'.1));have a0:=cell_regrown c0;have an:=cell_regrown cn;have a1:=cell_regrown c1;have a2:=cell_regrown c2;have b0:=cell_regrown d0;have bn:=cell_regrown dn;have b1:=cell_regrown d1;have b2:=cell_regrown d2;have hg:=hsub.grow hbel;have hg':=hsub'.grow hbel;have cA:=Hid.mk (fun d os=>Calls.regrown_of (w:=wr) (d:=d) (os:=os) (eqExpr_of t hsz B C (V k) (V' k) _ (hg.grow (below_regrown wr d os)) (hg'.grow (below_regrown wr d os))));have hi1:(k:Int)<(l.length:Int):=(by omega);clear hsub hsub' hsz h3 h3' c0 cn c1 c2 d0 dn d1 d2 hg hg';go_wp2_with fail
   refine wp_region_quiet_below (by kernel_rfl) (by kernel_rfl) ?_
   iterate 8
    quiet_step (fail)
   quiet_step (exact cA.out _ _)
   quiet_step (fail)
   refine wpQuiet_nil ?_;intro w6 hw';obtain⟨⟨dq,osq⟩,hw''⟩:=hw';have hb6:Below wr.heap.size wr w6:=(by rw[hw''];exact below_regrown _ _ _);have B6:=hbel.trans (hb6.mono hbel.size);clear hw'' a0 an a1 a2 b0 bn b1 b2 cA hb6;go_wp2;go_roundw
   case rel=>exact⟨k+1,by omega,by go_num,B6⟩
   case measure=>simp[intOf];omega
  ·go_wp2
   go_ret;exact⟨rfl,hbel⟩
theorem eqExprS_any (l:List Ex):EqX l:=(Ex.ind (P:=fun t=>EqX t.l) (fun t ih=>eqExprS_step t.l ih) (.node 0 0 ⟨#[]⟩ l))
theorem eqExpr_any (t:Ex) (B C:Nat->Prop) (v u:Value) (w:World) (h:El w B t.l v) (h':El w C t.l u) :
  Calls Tryz.prog 127 #[xx t.k t.n t.s v,xx t.k t.n t.s u] w fun e w'=>e=.returned (.bool true)/\Below w.heap.size w w':=eqExpr_of t (eqExprS_any t.l) B C v u w h h'
theorem txt_same {s t:ByteArray} (h:s.toList=t.toList):s=t:=by
 rw[ByteArray.toList_eq,ByteArray.toList_eq] at h;cases s;cases t;exact congrArg _ (Array.toList_inj.1 h)
theorem txt_bne {s t:ByteArray} (h:s≠t):(s.toList != t.toList)=true:=by
 rw[bne_iff_ne];exact fun e=>h (txt_same e)
open Classical in
noncomputable def sameX (a b:Ex):Bool:=decide (a=b)
theorem sameX_iff {a b:Ex}:sameX a b=true↔a=b:=by simp[sameX]
inductive Us where
 | v (s:ByteArray)
 | t (s:ByteArray)
 | c (e:Ex)
 | nx
 | rt
def hereX (e:Ex):List Us:=if e.k=3 then [.v e.s] else if e.k=4\/e.k=9 then [.t e.s] else if e.k=11 then [.c e] else []
mutual
def Ex.us:Ex->List Us
 | .node k n s l=>hereX (.node k n s l)++usX l
def usX:List Ex->List Us
 | []=>[]
 | t :: r=>t.us++usX r
end
theorem Ex.us_eq (t:Ex):t.us=hereX t++usX t.l:=by cases t;rw[Ex.us];rfl
theorem usX_append (l r:List Ex):usX (l++r)=usX l++usX r:=by
 induction l with
 | nil=>rw[usX];rfl
 | cons t l ih=>rw[List.cons_append,usX,usX,ih,List.append_assoc]
theorem usX_take (l:List Ex) (k:Nat) (h:k<l.length):usX (l.take (k+1))=usX (l.take k)++l[k].us:=by
 rw[List.take_succ_eq_append_getElem h,usX_append];have:usX [l[k]]=l[k].us:=by rw[usX,usX,List.append_nil]
 rw[this]
def hereS (x:St):List Us:=if x.k=2 then [.v x.s] else if x.k=3\/x.k=11 then [.t x.s] else if x.k=7 then [.v x.s,.t x.t] else if x.k=8 then [.nx] else if x.k=10 then [.rt] else []
mutual
def St.us:St->List Us
 | .node k s t x a b=>hereS (.node k s t x a b)++usX x++usS a++usS b
def usS:List St->List Us
 | []=>[]
 | t :: r=>t.us++usS r
end
theorem St.us_eq (t:St):t.us=hereS t++usX t.x++usS t.a++usS t.b:=by cases t;rw[St.us];rfl
theorem usS_append (l r:List St):usS (l++r)=usS l++usS r:=by
 induction l with
 | nil=>rw[usS];rfl
 | cons t l ih=>rw[List.cons_append,usS,usS,ih,List.append_assoc]
theorem usS_take (l:List St) (k:Nat) (h:k<l.length):usS (l.take (k+1))=usS (l.take k)++l[k].us:=by
 rw[List.take_succ_eq_append_getElem h,usS_append];have:usS [l[k]]=l[k].us:=by rw[usS,usS,List.append_nil]
 rw[this]
def Ru.us (r:Ru):List Us:=(if r.k=4 then r.p.us else [])++usS r.a
def VarP (p:Pg) (s:ByteArray):Prop:=(∃ f∈p.f,.v s∈usS f.a/\s ∉ f.ps)\/∃ r∈p.r,.v s∈r.us
def TabP (p:Pg) (s:ByteArray):Prop:=(∃ f∈p.f,.t s∈usS f.a)\/∃ r∈p.r,.t s∈r.us
def CalP (p:Pg) (e:Ex):Prop:=(∃ f∈p.f,.c e∈usS f.a)\/∃ r∈p.r,.c e∈r.us
def FnN (p:Pg) (s:ByteArray):Prop:=∃ f∈p.f,f.n=s
def ParP (p:Pg) (s:ByteArray):Prop:=∃ f∈p.f,s∈f.ps
def BothP (p:Pg):Prop:=(∃ s,(VarP p s\/ParP p s)/\(TabP p s\/FnN p s))\/∃ s,TabP p s/\FnN p s
def BadCallP (p:Pg):Prop:=∃ e,CalP p e/\¬ ∃ f∈p.f,f.n=e.s/\e.l.length<=f.ps.length
def BadPlaceP (p:Pg):Prop:=(∃ f∈p.f,.nx∈usS f.a)\/∃ r∈p.r,(.nx∈usS r.a/\r.k≠3/\r.k≠4)\/.rt∈usS r.a
open Classical in
noncomputable def checkP (p:Pg):Int:=if progB p=false then 1 else if BothP p then 2 else if BadCallP p then 3 else if BadPlaceP p then 4 else 0
theorem hereX_len (e:Ex):(hereX e).length<=1:=by unfold hereX;split <;> (try split) <;> (try split) <;> simp
theorem hereS_len (x:St):(hereS x).length<=2:=by unfold hereS;split <;> (try split) <;> (try split) <;> (try split) <;> (try split) <;> simp
theorem nm_tri:∀ x y:List UInt8,(Op.bytesLess x y=true/\Op.bytesLess y x=false/\(x==y)=false)\/(Op.bytesLess x y=false/\Op.bytesLess y x=true/\(x==y)=false)\/(Op.bytesLess x y=false/\Op.bytesLess y x=false/\(x==y)=true)
 | [],[]=>by simp[Op.bytesLess]
 | [],b :: y=>by simp[Op.bytesLess]
 | a :: x,[]=>by simp[Op.bytesLess]
 | a :: x,b :: y=>by
  have ih:=nm_tri x y;by_cases h:a=b
  ·subst h
   have hlt:¬ a<a:=(by simp);simp only[Op.bytesLess,hlt,decide_false,Bool.false_or,BEq.rfl,Bool.true_and]
   simpa using ih
  ·have hne:(a==b)=false:=by simpa using h
   have hne':(b==a)=false:=by simpa using fun e=>h e.symm
   have hn:a.toNat≠b.toNat:=fun e=>h (UInt8.toNat_inj.1 e);simp only[Op.bytesLess,hne,hne',Bool.false_and,Bool.or_false];by_cases hl:a<b
   ·have hg:¬ b<a:=by simp[UInt8.lt_iff_toNat_lt] at *;omega
    simp[hl,hg,h]
   ·have hg:b<a:=by simp[UInt8.lt_iff_toNat_lt] at *;omega
    simp[hl,hg,h]
def insK (l:List ByteArray) (s:ByteArray):Nat->Nat
 | 0=>0
 | k+1=>if Op.bytesLess s.toList (l.getD k ⟨#[]⟩).toList=true then insK l s k else k+1
def insT (l:List ByteArray) (s:ByteArray):List ByteArray:=l.take (insK l s l.length)++s :: l.drop (insK l s l.length)
def putT (l:List ByteArray) (s:ByteArray):List ByteArray:=if hasT l s then l else insT l s
theorem insK_le (l:List ByteArray) (s:ByteArray) (k:Nat):insK l s k<=k:=by
 induction k with
 | zero=>exact Nat.le_refl _
 | succ k ih=>unfold insK;split <;> omega
theorem mem_insT {l:List ByteArray} {s x:ByteArray}:x∈insT l s↔x=s\/x∈l:=by
 unfold insT;rw[List.mem_append,List.mem_cons];have h:x∈l↔x∈l.take (insK l s l.length)\/x∈l.drop (insK l s l.length):=by
  rw[<- List.mem_append,List.take_append_drop]
 rw[h];constructor
 ·rintro(h | h | h)
  ·exact .inr (.inl h)
  ·exact .inl h
  ·exact .inr (.inr h)
 ·rintro(h | h | h)
  ·exact .inr (.inl h)
  ·exact .inl h
  ·exact .inr (.inr h)
theorem bytes_eq {x y:ByteArray} (h:x.toList=y.toList):x=y:=txt_same h
theorem hasT_iff {l:List ByteArray} {s:ByteArray}:hasT l s=true↔s∈l:=by
 unfold hasT;rw[List.any_eq_true];constructor
 ·rintro⟨x,hx,he⟩
  obtain rfl:x=s:=bytes_eq (by simpa using he);exact hx
 ·intro h
  exact⟨s,h,by simp⟩
theorem mem_putT {l:List ByteArray} {s x:ByteArray}:x∈putT l s↔x=s\/x∈l:=by
 unfold putT;split
 ·rename_i h
  constructor
  ·exact .inr
  ·rintro(rfl | h')
   ·exact hasT_iff.1 h
   ·exact h'
 ·exact mem_insT
theorem putT_len (l:List ByteArray) (s:ByteArray):(putT l s).length<=l.length+1:=by
 unfold putT insT;split
 ·omega
 ·have:=insK_le l s l.length
  simp only[List.length_append,List.length_take,List.length_cons,List.length_drop];omega
structure Ms where
 vs:List ByteArray
 ts:List ByteArray
 cs:List Ex
 bad:Bool
def Ms.step (ps:List ByteArray) (fn line:Bool) (m:Ms):Us->Ms
 | .v s=>if hasT ps s then m else { m with vs:=putT m.vs s }
 | .t s=>{ m with ts:=putT m.ts s }
 | .c e=>{ m with cs:=m.cs++[e] }
 | .nx=>{ m with bad:=m.bad||!line }
 | .rt=>{ m with bad:=m.bad||!fn }
def Ms.go (ps:List ByteArray) (fn line:Bool) (m:Ms) (l:List Us):Ms:=l.foldl (Ms.step ps fn line) m
theorem Ms.go_append (ps:List ByteArray) (fn line:Bool) (m:Ms) (l r:List Us):m.go ps fn line (l++r)=(m.go ps fn line l).go ps fn line r:=List.foldl_append
theorem Ms.go_nil (ps:List ByteArray) (fn line:Bool) (m:Ms):m.go ps fn line []=m:=rfl
theorem Ms.go_spec (ps:List ByteArray) (fn line:Bool) (l:List Us) (m:Ms) :
  (∀ s,s∈(m.go ps fn line l).vs↔s∈m.vs\/(.v s∈l/\s ∉ ps))/\(∀ s,s∈(m.go ps fn line l).ts↔s∈m.ts\/.t s∈l)/\(∀ e,e∈(m.go ps fn line l).cs↔e∈m.cs\/.c e∈l) /\
  ((m.go ps fn line l).bad=true↔m.bad=true\/(.nx∈l/\line=false)\/(.rt∈l/\fn=false)):=by
 induction l generalizing m with
 | nil=>simp[Ms.go]
 | cons u l ih =>
  have e:m.go ps fn line (u :: l)=(m.step ps fn line u).go ps fn line l:=rfl;rw[e];obtain⟨h1,h2,h3,h4⟩:=ih (m.step ps fn line u);refine⟨fun s=>?_,fun s=>?_,fun e=>?_,?_⟩
  ·rw[h1 s]
   cases u with
   | v x =>
    unfold Ms.step
    dsimp only
    by_cases hx:hasT ps x=true
    ·rw[if_pos hx]
     have hx':=hasT_iff.1 hx;simp only[List.mem_cons,Us.v.injEq];constructor
     ·rintro(h | h)
      ·exact .inl h
      ·exact .inr ⟨.inr h.1,h.2⟩
     ·rintro(h | ⟨rfl | h,h'⟩)
      ·exact .inl h
      ·exact absurd hx' h'
      ·exact .inr ⟨h,h'⟩
    ·rw[if_neg hx]
     have hx':x ∉ ps:=fun h=>hx (hasT_iff.2 h);simp only[List.mem_cons,Us.v.injEq,mem_putT];constructor
     ·rintro((rfl | h) | h)
      ·exact .inr ⟨.inl rfl,hx'⟩
      ·exact .inl h
      ·exact .inr ⟨.inr h.1,h.2⟩
     ·rintro(h | ⟨rfl | h,h'⟩)
      ·exact .inl (.inr h)
      ·exact .inl (.inl rfl)
      ·exact .inr ⟨h,h'⟩
   | t x=>simp[Ms.step]
   | c x=>simp[Ms.step]
   | nx=>simp[Ms.step]
   | rt=>simp[Ms.step]
  ·rw[h2 s]
   cases u with
   | v x=>unfold Ms.step;dsimp only;split <;> simp
   | t x =>
    simp only[Ms.step,List.mem_cons,Us.t.injEq,mem_putT];constructor
    ·rintro((rfl | h) | h)
     ·exact .inr (.inl rfl)
     ·exact .inl h
     ·exact .inr (.inr h)
    ·rintro(h | rfl | h)
     ·exact .inl (.inr h)
     ·exact .inl (.inl rfl)
     ·exact .inr h
   | c x=>simp[Ms.step]
   | nx=>simp[Ms.step]
   | rt=>simp[Ms.step]
  ·rw[h3 e]
   cases u with
   | v x=>unfold Ms.step;dsimp only;split <;> simp
   | t x=>simp[Ms.step]
   | c x =>
    simp only[Ms.step,List.mem_cons,Us.c.injEq,List.mem_append,List.not_mem_nil,or_false];constructor
    ·rintro((h | rfl) | h)
     ·exact .inl h
     ·exact .inr (.inl rfl)
     ·exact .inr (.inr h)
    ·rintro(h | rfl | h)
     ·exact .inl (.inl h)
     ·exact .inl (.inr rfl)
     ·exact .inr h
   | nx=>simp[Ms.step]
   | rt=>simp[Ms.step]
  ·rw[h4]
   cases u with
   | v x=>unfold Ms.step;dsimp only;split <;> simp
   | t x=>simp[Ms.step]
   | c x=>simp[Ms.step]
   | nx =>
    cases line <;> cases fn <;> cases hb:m.bad <;> simp[Ms.step,hb]
   | rt =>
    cases line <;> cases fn <;> cases hb:m.bad <;> simp[Ms.step,hb]
theorem Ms.go_vlen (ps:List ByteArray) (fn line:Bool) (l:List Us) (m:Ms):(m.go ps fn line l).vs.length<=m.vs.length+l.length/\(m.go ps fn line l).ts.length<=m.ts.length+l.length/\(m.go ps fn line l).cs.length<=m.cs.length+l.length:=by
 induction l generalizing m with
 | nil=>exact⟨Nat.le_refl _,Nat.le_refl _,Nat.le_refl _⟩
 | cons u l ih =>
  have e:m.go ps fn line (u :: l)=(m.step ps fn line u).go ps fn line l:=rfl;rw[e];obtain⟨h1,h2,h3⟩:=ih (m.step ps fn line u);have h4:(m.step ps fn line u).vs.length<=m.vs.length+1/\(m.step ps fn line u).ts.length<=m.ts.length+1/\(m.step ps fn line u).cs.length<=m.cs.length+1:=by
   cases u with
   | v x=>unfold Ms.step;dsimp only;split;exact⟨by omega,by omega,by omega⟩;exact⟨putT_len _ _,by simp,by simp⟩
   | t x=>exact⟨by simp[Ms.step],putT_len _ _,by simp[Ms.step]⟩
   | c x=>exact⟨by simp[Ms.step],by simp[Ms.step],by simp[Ms.step]⟩
   | nx=>exact⟨by simp[Ms.step],by simp[Ms.step],by simp[Ms.step]⟩
   | rt=>exact⟨by simp[Ms.step],by simp[Ms.step],by simp[Ms.step]⟩
  simp only[List.length_cons];exact⟨by omega,by omega,by omega⟩
end Go.Proofs.YtkbijjkgfojchaaGreat
namespace Go.Proofs.YtkbijjkgfojchaaGreat
open Go.RowKit Go.Maps Go.ChangeMaps Go.WideMaps
set_option maxRecDepth 8000
theorem strKey:Keyed Tryz.prog 9:=string_keyed Tryz.underlying9
def keyL (s:ByteArray):Lit:=.string s.data.toList
theorem keyL_inj {s t:ByteArray} (h:keyL s=keyL t):s=t:=by
 unfold keyL at h;simp only[Lit.string.injEq] at h;cases s with
 | mk s=>cases t with
  | mk t=>congr;exact Array.toList_inj.1 h
theorem keyOfL {s:ByteArray} (hs:s.size<=maxLen):keyOf Tryz.prog 9 (.string s)=some (keyL s):=keyOf_string_mk Tryz.underlying9 hs
theorem isKeyL {s:ByteArray} (hs:s.size<=maxLen):WideAt.IsKeyLit (keyL s):=strKey.key (keyOfL hs)
theorem keyOf_inv {v:Value} {kl:Lit} (h:keyOf Tryz.prog 9 v=some kl):∃ s:ByteArray,v=.string s/\kl=keyL s/\s.size<=maxLen:=by
 cases v <;> simp[keyOf,Tryz.underlying9,mapKey] at h
 rename_i s
 exact⟨s,rfl,h.2.symm,h.1⟩
theorem zeroUnit (w:World):(zeroValue 101).run Tryz.prog w=.ok (.agg #[]) w:=by kernel_rfl
theorem zeroIntM (w:World):(zeroValue 3).run Tryz.prog w=.ok (.int .i64 0) w:=by kernel_rfl
def SetM (w:World) (b n:Nat) (P:ByteArray->Prop):Prop:=∃ D:DataW Unit,w.ownsMap Tryz.prog 9 unitElem b n D/\∀ s:ByteArray,s.size<=maxLen->(Maps.has D (keyL s)=true↔P s)
def MapI (w:World) (b n:Nat) (M:ByteArray->Option Int):Prop:=∃ D:DataW Unit,w.ownsMap Tryz.prog 9 (plainElem Tryz.prog 3) b n D/\∀ s:ByteArray,s.size<=maxLen->Maps.has D (keyL s)=(M s).isSome/\∀ x,M s=some x->∀ z,D.atKey (keyL s) z=.lit (.int .i64 x)
theorem SetM.lt {w:World} {b n:Nat} {P:ByteArray->Prop} (h:SetM w b n P):b<w.heap.size:=by
 obtain⟨D,h,-⟩:=h;exact h.lt
theorem MapI.lt {w:World} {b n:Nat} {M:ByteArray->Option Int} (h:MapI w b n M):b<w.heap.size:=by
 obtain⟨D,h,-⟩:=h;exact h.lt
theorem ownsMap_blk {H:Type} {w w':World} {P:Program} {k:TypeId} {R:Value->Option (DataW H × List MemPlace)} {b n:Nat} {D:DataW H} (h:w.ownsMap P k R b n D) (hb:w'.heap[b]?=w.heap[b]?):w'.ownsMap P k R b n D:=by
 obtain⟨es,clock,h1,r⟩:=h;exact⟨es,clock,hb.trans h1,r⟩
theorem SetM.kept {w w':World} {b n:Nat} {P:ByteArray->Prop} (h:SetM w b n P) (hb:w'.heap[b]?=w.heap[b]?):SetM w' b n P:=by
 obtain⟨D,h,hP⟩:=h;exact⟨D,ownsMap_blk h hb,hP⟩
theorem MapI.kept {w w':World} {b n:Nat} {M:ByteArray->Option Int} (h:MapI w b n M) (hb:w'.heap[b]?=w.heap[b]?):MapI w' b n M:=by
 obtain⟨D,h,hP⟩:=h;exact⟨D,ownsMap_blk h hb,hP⟩
theorem SetM.grow {w w':World} {b n:Nat} {P:ByteArray->Prop} (h:SetM w b n P) (hk:Below w.heap.size w w'):SetM w' b n P:=h.kept (hk.block b h.lt)
theorem MapI.grow {w w':World} {b n:Nat} {M:ByteArray->Option Int} (h:MapI w b n M) (hk:Below w.heap.size w w'):MapI w' b n M:=h.kept (hk.block b h.lt)
theorem SetM.mono {w:World} {b n n':Nat} {P:ByteArray->Prop} (h:SetM w b n P) (hn:n<=n'):SetM w b n' P:=by
 obtain⟨D,h,hP⟩:=h;exact⟨D,h.mono hn,hP⟩
theorem MapI.mono {w:World} {b n n':Nat} {M:ByteArray->Option Int} (h:MapI w b n M) (hn:n<=n'):MapI w b n' M:=by
 obtain⟨D,h,hP⟩:=h;exact⟨D,h.mono hn,hP⟩
theorem SetM.iff {w:World} {b n:Nat} {P Q:ByteArray->Prop} (h:SetM w b n P) (hq:∀ s,s.size<=maxLen->(P s↔Q s)):SetM w b n Q:=by
 obtain⟨D,h,hP⟩:=h;exact⟨D,h,fun s hs=>(hP s hs).trans (hq s hs)⟩
theorem SetM.made (w:World):SetM (w.alloc (.map #[] 0)) w.heap.size 0 (fun _=>False):=⟨_,World.ownsMap_made w _ _ _,fun s _=>by simp[Maps.has]⟩
theorem MapI.made (w:World):MapI (w.alloc (.map #[] 0)) w.heap.size 0 (fun _=>none):=⟨_,World.ownsMap_made w _ _ _,fun s _=>⟨by simp[Maps.has],fun x h=>by cases h⟩⟩
section
variable {w:World} {ops:Array Oper} {rest:List Oper} {o:Oper} {a:Act} {Q:Exit->Act->World->Prop}
theorem wpList_setPut (hg:o.guard=none) (m x v:Operand) (hop:o.op=Op.mapUpdate 60 m x v) (b n:Nat) (P:ByteArray->Prop) (h:SetM w b n P) (hn:n<maxLen) (s:ByteArray) (hs:s.size<=maxLen)
  (hm:a.eval m=.map (some b)) (hx:a.eval x=.string s) (hv:a.eval v=.agg #[])
  (hK:∀ w',SetM w' b (n+1) (fun y=>P y\/y=s)->w.grownBy w' (some b)->wpList Tryz.prog ops Q rest (a.put o.dst undef) w'):wpList Tryz.prog ops Q (o :: rest) a w:=by
 obtain⟨D,h,hP⟩:=h;refine wpList_mapUpdate_own w hg m x v _ hop _ _ strKey Tryz.underlying60 _ b n D hm h hn _ _ (keyL s) hx hv (keyOfL hs) (.agg []) [] unitElem_mk ?_;intro w' h' hg';refine hK w' ⟨_,h',fun y hy=>?_⟩ hg';by_cases e:y=s
 ·subst e
  rw[has_put_same h.isMap (isKeyL hs)];simp
 ·rw[has_put_other (fun h=>e (keyL_inj h)),hP y hy]
  simp[e]
theorem wpList_setHas (hg:o.guard=none) (m x:Operand) (hop:o.op=Op.lookup 60 m x true) (b n:Nat) (P:ByteArray->Prop) (h:SetM w b n P) (s:ByteArray) (hs:s.size<=maxLen)
  (hm:a.eval m=.map (some b)) (hx:a.eval x=.string s)
  (hK:∀ c:Bool,(c=true↔P s)->wpList Tryz.prog ops Q rest (a.put o.dst (.tuple #[.agg #[],.bool c])) w):wpList Tryz.prog ops Q (o :: rest) a w:=by
 obtain⟨D,h,hP⟩:=h;exact wpList_lookup_own_unit w hg m x _ hop _ _ strKey Tryz.underlying60 (zeroUnit w) b n D hm h _ (keyL s) hx (keyOfL hs) (hK _ (hP s hs))
theorem wpList_setDel (hg:o.guard=none) (m x:Operand) (hop:o.op=Op.call { callee:=Callee.builtin Builtin.delete,args:=#[m,x],argTypes:=#[60,9] }) (b n:Nat) (P:ByteArray->Prop) (h:SetM w b n P) (s:ByteArray) (hs:s.size<=maxLen)
  (hm:a.eval m=.map (some b)) (hx:a.eval x=.string s)
  (hK:∀ w',SetM w' b n (fun y=>P y/\y≠s)->w.grownBy w' (some b)->wpList Tryz.prog ops Q rest (a.put o.dst (.tuple #[])) w'):wpList Tryz.prog ops Q (o :: rest) a w:=by
 obtain⟨D,h,hP⟩:=h;refine wpList_delete_own w hg m x _ _ hop _ strKey Tryz.underlying60 _ b n D hm h _ (keyL s) hx (keyOfL hs) ?_;intro w' h' ht;refine hK w' ⟨_,h',fun y hy=>?_⟩ ht.grown;by_cases e:y=s
 ·subst e
  rw[has_del_same];simp
 ·rw[has_del_other (fun h=>e (keyL_inj h)),hP y hy]
  simp[e]
theorem wpList_intPut (hg:o.guard=none) (m x v:Operand) (hop:o.op=Op.mapUpdate 61 m x v) (b n:Nat) (M:ByteArray->Option Int) (h:MapI w b n M) (hn:n<maxLen) (s:ByteArray) (hs:s.size<=maxLen) (c:Int) (hc:(Lit.int .i64 c).wf=true)
  (hm:a.eval m=.map (some b)) (hx:a.eval x=.string s) (hv:a.eval v=.int .i64 c)
  (hK:∀ w' M',MapI w' b (n+1) M'->M' s=some c->(∀ y,y≠s->M' y=M y)->w.grownBy w' (some b)->wpList Tryz.prog ops Q rest (a.put o.dst undef) w'):wpList Tryz.prog ops Q (o :: rest) a w:=by
 obtain⟨D,h,hP⟩:=h;refine wpList_mapUpdate_own w hg m x v _ hop _ _ strKey Tryz.underlying61 _ b n D hm h hn _ _ (keyL s) hx hv (keyOfL hs) (.lit (.int .i64 c)) [] (plainElem_int Tryz.underlying3 hc) ?_;intro w' h' hg'
 classical
 refine hK w' (fun y=>if y=s then some c else M y) ⟨_,h',fun y hy=>?_⟩ (by simp) (fun y hy=>by simp[hy]) hg';by_cases e:y=s
 ·subst e
  rw[has_put_same h.isMap (isKeyL hs)];refine⟨by simp,fun x hx z=>?_⟩;obtain rfl:c=x:=by simpa using hx
  exact atKey_put_same h.isMap (isKeyL hs) _ _
 ·rw[has_put_other (fun h=>e (keyL_inj h))]
  refine⟨by rw[(hP y hy).1];simp[e],fun x hx z=>?_⟩;rw[atKey_put_other (fun h=>e (keyL_inj h))];exact(hP y hy).2 x (by simpa [e] using hx) z
theorem wpList_intAt (hg:o.guard=none) (m x:Operand) (hop:o.op=Op.lookup 61 m x false) (b n:Nat) (M:ByteArray->Option Int) (h:MapI w b n M) (s:ByteArray) (hs:s.size<=maxLen)
  (hm:a.eval m=.map (some b)) (hx:a.eval x=.string s)
  (hK:wpList Tryz.prog ops Q rest (a.put o.dst (.int .i64 ((M s).getD 0))) w):wpList Tryz.prog ops Q (o :: rest) a w:=by
 obtain⟨D,h,hP⟩:=h;refine wpList_lookup_own_int w hg m x _ hop _ _ .i64 strKey Tryz.underlying61 Tryz.underlying3 (zeroIntM w) b n D hm h _ (keyL s) hx (keyOfL hs) ?_;intro c hc _;obtain⟨h1,h2⟩:=hP s hs;have:c=(M s).getD 0:=by
  cases hM:M s with
  | none =>
   rw[hM] at h1;rw[atKey_of_not_has (by simpa using h1)] at hc
   simpa using hc.symm
  | some x =>
   rw[h2 x hM] at hc
   simpa using hc.symm
 rw[this];exact hK
theorem wpList_intHas (hg:o.guard=none) (m x:Operand) (hop:o.op=Op.lookup 61 m x true) (b n:Nat) (M:ByteArray->Option Int) (h:MapI w b n M) (s:ByteArray) (hs:s.size<=maxLen)
  (hm:a.eval m=.map (some b)) (hx:a.eval x=.string s)
  (hK:wpList Tryz.prog ops Q rest (a.put o.dst (.tuple #[.int .i64 ((M s).getD 0),.bool (M s).isSome])) w):wpList Tryz.prog ops Q (o :: rest) a w:=by
 obtain⟨D,h,hP⟩:=h;refine wpList_lookup_own_ok_int w hg m x _ hop _ _ .i64 strKey Tryz.underlying61 Tryz.underlying3 (zeroIntM w) b n D hm h _ (keyL s) hx (keyOfL hs) ?_;intro c hc _;obtain⟨h1,h2⟩:=hP s hs;rw[h1];have:c=(M s).getD 0:=by
  cases hM:M s with
  | none =>
   rw[hM] at h1;rw[atKey_of_not_has (by simpa using h1)] at hc
   simpa using hc.symm
  | some x =>
   rw[h2 x hM] at hc
   simpa using hc.symm
 rw[this];exact hK
end
end Go.Proofs.YtkbijjkgfojchaaGreat
