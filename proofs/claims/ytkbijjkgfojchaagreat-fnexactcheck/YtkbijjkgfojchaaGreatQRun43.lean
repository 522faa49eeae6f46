/- What a statement's kind asks: the program's stmtNodeOk. .. -/
import Derived.Test.YtkbijjkgfojchaaGreatQRun42
import Derived.Lib.AppendZeros
namespace Go.Proofs.YtkbijjkgfojchaaGreat
set_option maxHeartbeats 4000000
open Go.RowKit
set_option maxRecDepth 8000
theorem nodeRun (k:Int) (s u:ByteArray) (xo:Option Addr) (nx xc:Nat) (yo:Option Addr) (na yc:Nat) (zo:Option Addr) (nb zc:Nat) (w:World) (hs:s.size<=maxLen) (hu:u.size<=maxLen) (q7:Bool)
  (HT:∀ w',Below w.heap.size w w'->Calls Tryz.prog 179 #[st k s u (.slice xo nx xc) (.slice yo na yc) (.slice zo nb zc)] w' fun e w''=>e=.returned (.bool q7)/\Below w'.heap.size w' w'') :
  Calls Tryz.prog 154 #[st k s u (.slice xo nx xc) (.slice yo na yc) (.slice zo nb zc)] w fun e w'=>e=.returned (.bool ((frm k).ok&&(if (frm k).s then nmB s else s.toList.isEmpty)&&(if (frm k).t then nmB u else u.toList.isEmpty)&&(na==0||((frm k).a&&decide (na<60)))&&(nb==0||((frm k).b&&decide (nb<60)))&&decide ((frm k).lo<=(nx:Int))&&decide ((nx:Int)<=(frm k).hi)&&q7))/\Below w.heap.size w w':=by
 have HF:=Hid.mk (fun w'=>formOf_any k w');have H7:=Hid.mk HT;clear HT;obtain⟨f,hf⟩:∃ f,frm k=f:=⟨_,rfl⟩;obtain⟨fs,ft,fa,fb,lo,hi,ok⟩:=f;rw[hf] at HF;rw[hf];clear hf;have H1:=Hid.mk (fun w'=>nameAs_any s fs w' hs);have H2:=Hid.mk (fun w'=>nameAs_any u ft w' hu);have H3:=Hid.mk (fun w'=>blockAs_any yo na yc fa w');have H4:=Hid.mk (fun w'=>blockAs_any zo nb zc fb w');simp only;generalize (if fs=true then nmB s else s.toList.isEmpty)=q1 at *;generalize (if ft=true then nmB u else u.toList.isEmpty)=q2 at *;generalize (na==0||(fa&&decide (na<60)))=q3 at *;generalize (nb==0||(fb&&decide (nb<60)))=q4 at *;have A0:Below w.heap.size w (w.alloc (.cells #[.int .i64 k,.string s,.string u,.slice xo nx xc,.slice yo na yc,.slice zo nb zc] 52)):=(Below.refl _ _).alloc (Nat.le_refl _) _;clear hs hu;cases ok with
 | false =>
  go_enter Tryz.func154,Tryz.ntmps154
  go_wp2_with fail
  refine(HF.out _).mono ?_;rintro e w1 ⟨rfl,hb1⟩;have hc1:=fun o=>hb1.cell (p:=⟨w.heap.size,o,none⟩) (by simp);have B1:=A0.trans (hb1.mono (by simp));have s1:=hb1.size;simp at s1;have s2:w.heap.size<w1.heap.size:=s1;have s3:w.heap.size≠w1.heap.size:=(by omega);have B2:=B1.alloc (by omega:w.heap.size<=w1.heap.size) (.cells #[.bool fs,.bool ft,.bool fa,.bool fb,.int .i64 lo,.int .i64 hi] 209);clear A0 hb1 HF B1;go_wp2;go_ret;exact⟨ret_tb (by simp),B2⟩
 | true =>
  cases q1 with
  | false =>
   go_enter Tryz.func154,Tryz.ntmps154
   go_wp2_with fail
   refine(HF.out _).mono ?_;rintro e w1 ⟨rfl,hb1⟩;have hc1:=fun o=>hb1.cell (p:=⟨w.heap.size,o,none⟩) (by simp);have B1:=A0.trans (hb1.mono (by simp));have s1:=hb1.size;simp at s1;have s2:w.heap.size<w1.heap.size:=s1;have s3:w.heap.size≠w1.heap.size:=(by omega);have B2:=B1.alloc (by omega:w.heap.size<=w1.heap.size) (.cells #[.bool fs,.bool ft,.bool fa,.bool fb,.int .i64 lo,.int .i64 hi] 209);clear A0 hb1 HF B1;go_wp2_with fail
   refine(H1.out _).mono ?_;rintro e w2 ⟨rfl,hw⟩;subst hw;clear H1;go_wp2;go_ret;exact⟨ret_tb (by simp),B2⟩
  | true =>
   cases q2 with
   | false =>
    go_enter Tryz.func154,Tryz.ntmps154
    go_wp2_with fail
    refine(HF.out _).mono ?_;rintro e w1 ⟨rfl,hb1⟩;have hc1:=fun o=>hb1.cell (p:=⟨w.heap.size,o,none⟩) (by simp);have B1:=A0.trans (hb1.mono (by simp));have s1:=hb1.size;simp at s1;have s2:w.heap.size<w1.heap.size:=s1;have s3:w.heap.size≠w1.heap.size:=(by omega);have B2:=B1.alloc (by omega:w.heap.size<=w1.heap.size) (.cells #[.bool fs,.bool ft,.bool fa,.bool fb,.int .i64 lo,.int .i64 hi] 209);clear A0 hb1 HF B1;go_wp2_with fail
    refine(H1.out _).mono ?_;rintro e w2 ⟨rfl,hw⟩;subst hw;clear H1;go_wp2_with fail
    refine(H2.out _).mono ?_;rintro e w2 ⟨rfl,hw⟩;subst hw;clear H2;go_wp2;go_ret;exact⟨ret_tb (by simp),B2⟩
   | true =>
    cases q3 with
    | false =>
     go_enter Tryz.func154,Tryz.ntmps154
     go_wp2_with fail
     refine(HF.out _).mono ?_;rintro e w1 ⟨rfl,hb1⟩;have hc1:=fun o=>hb1.cell (p:=⟨w.heap.size,o,none⟩) (by simp);have B1:=A0.trans (hb1.mono (by simp));have s1:=hb1.size;simp at s1;have s2:w.heap.size<w1.heap.size:=s1;have s3:w.heap.size≠w1.heap.size:=(by omega);have B2:=B1.alloc (by omega:w.heap.size<=w1.heap.size) (.cells #[.bool fs,.bool ft,.bool fa,.bool fb,.int .i64 lo,.int .i64 hi] 209);clear A0 hb1 HF B1;go_wp2_with fail
     refine(H1.out _).mono ?_;rintro e w2 ⟨rfl,hw⟩;subst hw;clear H1;go_wp2_with fail
     refine(H2.out _).mono ?_;rintro e w2 ⟨rfl,hw⟩;subst hw;clear H2;go_wp2_with fail
     refine(H3.out _).mono ?_;rintro e w2 ⟨rfl,hw⟩;subst hw;clear H3;go_wp2;go_ret;exact⟨ret_tb (by simp),B2⟩
    | true =>
     cases q4 with
     | false =>
      go_enter Tryz.func154,Tryz.ntmps154
      go_wp2_with fail
      refine(HF.out _).mono ?_;rintro e w1 ⟨rfl,hb1⟩;have hc1:=fun o=>hb1.cell (p:=⟨w.heap.size,o,none⟩) (by simp);have B1:=A0.trans (hb1.mono (by simp));have s1:=hb1.size;simp at s1;have s2:w.heap.size<w1.heap.size:=s1;have s3:w.heap.size≠w1.heap.size:=(by omega);have B2:=B1.alloc (by omega:w.heap.size<=w1.heap.size) (.cells #[.bool fs,.bool ft,.bool fa,.bool fb,.int .i64 lo,.int .i64 hi] 209);clear A0 hb1 HF B1;go_wp2_with fail
      refine(H1.out _).mono ?_;rintro e w2 ⟨rfl,hw⟩;subst hw;clear H1;go_wp2_with fail
      refine(H2.out _).mono ?_;rintro e w2 ⟨rfl,hw⟩;subst hw;clear H2;go_wp2_with fail
      refine(H3.out _).mono ?_;rintro e w2 ⟨rfl,hw⟩;subst hw;clear H3;go_wp2_with fail
      refine(H4.out _).mono ?_;rintro e w2 ⟨rfl,hw⟩;subst hw;clear H4;go_wp2;go_ret;exact⟨ret_tb (by simp),B2⟩
     | true =>
      by_cases h5:lo<=(nx:Int)
      case neg =>
       have h5':¬ lo<=(nx:Int):=h5;go_enter Tryz.func154,Tryz.ntmps154
       go_wp2_with fail
       refine(HF.out _).mono ?_;rintro e w1 ⟨rfl,hb1⟩;have hc1:=fun o=>hb1.cell (p:=⟨w.heap.size,o,none⟩) (by simp);have B1:=A0.trans (hb1.mono (by simp));have s1:=hb1.size;simp at s1;have s2:w.heap.size<w1.heap.size:=s1;have s3:w.heap.size≠w1.heap.size:=(by omega);have B2:=B1.alloc (by omega:w.heap.size<=w1.heap.size) (.cells #[.bool fs,.bool ft,.bool fa,.bool fb,.int .i64 lo,.int .i64 hi] 209);clear A0 hb1 HF B1;go_wp2_with fail
       refine(H1.out _).mono ?_;rintro e w2 ⟨rfl,hw⟩;subst hw;clear H1;go_wp2_with fail
       refine(H2.out _).mono ?_;rintro e w2 ⟨rfl,hw⟩;subst hw;clear H2;go_wp2_with fail
       refine(H3.out _).mono ?_;rintro e w2 ⟨rfl,hw⟩;subst hw;clear H3;go_wp2_with fail
       refine(H4.out _).mono ?_;rintro e w2 ⟨rfl,hw⟩;subst hw;clear H4;go_wp2;go_ret;exact⟨ret_tb (by rw[decide_eq_false (by omega:¬ lo<=(nx:Int))];simp),B2⟩
      by_cases h6:(nx:Int)<=hi
      case neg =>
       go_enter Tryz.func154,Tryz.ntmps154
       go_wp2_with fail
       refine(HF.out _).mono ?_;rintro e w1 ⟨rfl,hb1⟩;have hc1:=fun o=>hb1.cell (p:=⟨w.heap.size,o,none⟩) (by simp);have B1:=A0.trans (hb1.mono (by simp));have s1:=hb1.size;simp at s1;have s2:w.heap.size<w1.heap.size:=s1;have s3:w.heap.size≠w1.heap.size:=(by omega);have B2:=B1.alloc (by omega:w.heap.size<=w1.heap.size) (.cells #[.bool fs,.bool ft,.bool fa,.bool fb,.int .i64 lo,.int .i64 hi] 209);clear A0 hb1 HF B1;go_wp2_with fail
       refine(H1.out _).mono ?_;rintro e w2 ⟨rfl,hw⟩;subst hw;clear H1;go_wp2_with fail
       refine(H2.out _).mono ?_;rintro e w2 ⟨rfl,hw⟩;subst hw;clear H2;go_wp2_with fail
       refine(H3.out _).mono ?_;rintro e w2 ⟨rfl,hw⟩;subst hw;clear H3;go_wp2_with fail
       refine(H4.out _).mono ?_;rintro e w2 ⟨rfl,hw⟩;subst hw;clear H4;go_wp2;go_ret;exact⟨ret_tb (by rw[decide_eq_false (by omega:¬ (nx:Int)<=hi)];simp),B2⟩
      go_enter Tryz.func154,Tryz.ntmps154
      go_wp2_with fail
      refine(HF.out _).mono ?_;rintro e w1 ⟨rfl,hb1⟩;have hc1:=fun o=>hb1.cell (p:=⟨w.heap.size,o,none⟩) (by simp);have B1:=A0.trans (hb1.mono (by simp));have s1:=hb1.size;simp at s1;have s2:w.heap.size<w1.heap.size:=s1;have s3:w.heap.size≠w1.heap.size:=(by omega);have B2:=B1.alloc (by omega:w.heap.size<=w1.heap.size) (.cells #[.bool fs,.bool ft,.bool fa,.bool fb,.int .i64 lo,.int .i64 hi] 209);clear A0 hb1 HF B1;go_wp2_with fail
      refine(H1.out _).mono ?_;rintro e w2 ⟨rfl,hw⟩;subst hw;clear H1;go_wp2_with fail
      refine(H2.out _).mono ?_;rintro e w2 ⟨rfl,hw⟩;subst hw;clear H2;go_wp2_with fail
      refine(H3.out _).mono ?_;rintro e w2 ⟨rfl,hw⟩;subst hw;clear H3;go_wp2_with fail
      refine(H4.out _).mono ?_;rintro e w2 ⟨rfl,hw⟩;subst hw;clear H4;go_wp2_with fail
      refine(H7.out _ B2).mono ?_;rintro e w2 ⟨rfl,hb2⟩;have B3:=B2.trans (hb2.mono (by simp;omega));clear H7 B2 hb2;go_wp2;go_ret;exact⟨ret_tb (by simp[h5,h6]),B3⟩
theorem frm_key (k:Int) (a1 a2 e1 e2:Bool) (s u:ByteArray) (ha:nmB s=a1) (hb:nmB u=a2) (hc:s.toList.isEmpty=e1) (hd:u.toList.isEmpty=e2) (nx na nb:Nat) :
  (hereK k s u nx na nb&&(decide (na<60)&&decide (nb<60)))=((frm k).ok&&(if (frm k).s then a1 else e1)&&(if (frm k).t then a2 else e2)&&(na==0||((frm k).a&&decide (na<60)))&&(nb==0||((frm k).b&&decide (nb<60)))&&decide ((frm k).lo<=(nx:Int))&&decide ((nx:Int)<=(frm k).hi)):=by
 unfold hereK;rw[ha,hb,hc,hd];clear ha hb hc hd;have fin:∀ (x y:Bool),(x=true↔y=true)->x=y:=by decide
 by_cases k1:k=1
 ·subst k1
  apply fin
  cases a1 <;> cases a2 <;> cases e1 <;> cases e2 <;> simp[frm] <;> omega
 by_cases k2:k=2
 ·subst k2
  apply fin
  cases a1 <;> cases a2 <;> cases e1 <;> cases e2 <;> simp[frm] <;> omega
 by_cases k3:k=3
 ·subst k3
  apply fin
  cases a1 <;> cases a2 <;> cases e1 <;> cases e2 <;> simp[frm] <;> omega
 by_cases k4:k=4
 ·subst k4
  apply fin
  cases a1 <;> cases a2 <;> cases e1 <;> cases e2 <;> simp[frm] <;> omega
 by_cases k5:k=5
 ·subst k5
  apply fin
  cases a1 <;> cases a2 <;> cases e1 <;> cases e2 <;> simp[frm] <;> omega
 by_cases k6:k=6
 ·subst k6
  apply fin
  cases a1 <;> cases a2 <;> cases e1 <;> cases e2 <;> simp[frm] <;> omega
 by_cases k7:k=7
 ·subst k7
  apply fin
  cases a1 <;> cases a2 <;> cases e1 <;> cases e2 <;> simp[frm] <;> omega
 by_cases k8:k=8
 ·subst k8
  apply fin
  cases a1 <;> cases a2 <;> cases e1 <;> cases e2 <;> simp[frm] <;> omega
 by_cases k9:k=9
 ·subst k9
  apply fin
  cases a1 <;> cases a2 <;> cases e1 <;> cases e2 <;> simp[frm] <;> omega
 by_cases k10:k=10
 ·subst k10
  apply fin
  cases a1 <;> cases a2 <;> cases e1 <;> cases e2 <;> simp[frm] <;> omega
 by_cases k11:k=11
 ·subst k11
  apply fin
  cases a1 <;> cases a2 <;> cases e1 <;> cases e2 <;> simp[frm] <;> omega
 by_cases k12:k=12
 ·subst k12
  apply fin
  cases a1 <;> cases a2 <;> cases e1 <;> cases e2 <;> simp[frm] <;> omega
 have hz:frm k=⟨false,false,false,false,0,0,false⟩:=by simp[frm,k1,k2,k3,k4,k5,k6,k7,k8,k9,k10,k11,k12]
 rw[hz];simp[k1,k2,k3,k4,k5,k6,k7,k8,k9,k10,k11,k12]
theorem nodeP_frm (t:St):nodeP t=((frm t.k).ok&&(if (frm t.k).s then nmB t.s else t.s.toList.isEmpty)&&(if (frm t.k).t then nmB t.t else t.t.toList.isEmpty)&&(t.a.length==0||((frm t.k).a&&decide (t.a.length<60)))&&(t.b.length==0||((frm t.k).b&&decide (t.b.length<60)))&&decide ((frm t.k).lo<=(t.x.length:Int))&&decide ((t.x.length:Int)<=(frm t.k).hi)&&(t.x.all okE&&callB t.k t.x)):=by
 unfold nodeP nodeS;rw[<- frm_key t.k (nmB t.s) (nmB t.t) t.s.toList.isEmpty t.t.toList.isEmpty t.s t.t rfl rfl rfl rfl t.x.length t.a.length t.b.length];generalize t.x.all okE=c1;generalize callB t.k t.x=c2;generalize hereK t.k t.s t.t t.x.length t.a.length t.b.length=c3;generalize decide (t.a.length<60)=c4;generalize decide (t.b.length<60)=c5;cases c1 <;> cases c2 <;> cases c3 <;> cases c4 <;> cases c5 <;> rfl
theorem stmtNode_any (t:St) (B:Nat->Prop) (xo:Option Addr) (xc:Nat) (yo:Option Addr) (yc:Nat) (zo:Option Addr) (zc:Nat) (w:World) (h:El w B t.x (.slice xo t.x.length xc)) (hs:t.s.size<=maxLen) (hu:t.t.size<=maxLen) (hx:∀ e∈t.x,ShX e) :
  Calls Tryz.prog 154 #[st t.k t.s t.t (.slice xo t.x.length xc) (.slice yo t.a.length yc) (.slice zo t.b.length zc)] w fun e w'=>e=.returned (.bool (nodeP t))/\Below w.heap.size w w':=by
 rw[nodeP_frm];exact nodeRun t.k t.s t.t xo t.x.length xc yo t.a.length yc zo t.b.length zc w hs hu _ (fun w' hw=>stmtTerms_any t B xo xc _ _ w' (h.grow hw) hx ⟨_,_,_,rfl⟩ ⟨_,_,_,rfl⟩)
abbrev Sv:=St × Value × Value × Value
def svCells:List Sv->List Value
 | []=>[]
 | q :: r=>.int .i64 q.1.k :: .string q.1.s :: .string q.1.t :: q.2.1 :: q.2.2.1 :: q.2.2.2 :: svCells r
theorem svCells_length (L:List Sv):(svCells L).length=L.length*6:=by
 induction L with
 | nil=>rfl
 | cons q r ih=>simp only[svCells,List.length_cons,ih];omega
theorem svCells_append (L M:List Sv):svCells (L++M)=svCells L++svCells M:=by
 induction L with
 | nil=>rfl
 | cons q r ih=>simp only[List.cons_append,svCells,ih]
theorem svCells_at (L:List Sv):∀ i (h:i<L.length),(svCells L)[i*6]?=some (.int .i64 L[i].1.k)/\(svCells L)[i*6+1]?=some (.string L[i].1.s)/\(svCells L)[i*6+2]?=some (.string L[i].1.t)/\(svCells L)[i*6+3]?=some L[i].2.1/\(svCells L)[i*6+4]?=some L[i].2.2.1/\(svCells L)[i*6+5]?=some L[i].2.2.2:=by
 induction L with
 | nil=>intro i h;simp at h
 | cons q r ih =>
  intro i h;cases i with
  | zero=>simp[svCells]
  | succ i =>
   have:=ih i (by simpa using h);have e0:(i+1)*6=i*6+6:=(by omega);simp only[svCells,e0,List.getElem?_cons_succ,List.getElem_cons_succ];exact this
theorem svCells_mem {L:List Sv} {u:Value} (h:u∈svCells L):∃ q∈L,u=.int .i64 q.1.k\/u=.string q.1.s\/u=.string q.1.t\/u=q.2.1\/u=q.2.2.1\/u=q.2.2.2:=by
 induction L with
 | nil=>cases h
 | cons q r ih =>
  simp only[svCells,List.mem_cons] at h;rcases h with h | h | h | h | h | h | h
  ·exact⟨q,by simp,.inl h⟩
  ·exact⟨q,by simp,.inr (.inl h)⟩
  ·exact⟨q,by simp,.inr (.inr (.inl h))⟩
  ·exact⟨q,by simp,.inr (.inr (.inr (.inl h)))⟩
  ·exact⟨q,by simp,.inr (.inr (.inr (.inr (.inl h))))⟩
  ·exact⟨q,by simp,.inr (.inr (.inr (.inr (.inr h))))⟩
  ·obtain⟨p,hp,hq⟩:=ih h
   exact⟨p,by simp[hp],hq⟩
def oldTo (n:Nat):Nat->Prop:=fun b=>b<n
def SvOk (w:World) (n:Nat) (q:Sv):Prop:=El w (oldTo n) q.1.x q.2.1/\Sl w (oldTo n) q.1.a q.2.2.1/\Sl w (oldTo n) q.1.b q.2.2.2/\q.1.s.size<=maxLen/\q.1.t.size<=maxLen
theorem SvOk.grow {w w':World} {n:Nat} {q:Sv} (h:SvOk w n q) (hb:Below w.heap.size w w'):SvOk w' n q:=⟨h.1.grow hb,h.2.1.grow hb,h.2.2.1.grow hb,h.2.2.2⟩
theorem SvOk.kept {w w':World} {n:Nat} {q:Sv} (h:SvOk w n q) (hk:∀ b,b<n->b<w.heap.size->w'.heap[b]?=w.heap[b]?):SvOk w' n q:=⟨h.1.kept hk,h.2.1.kept hk,h.2.2.1.kept hk,h.2.2.2⟩
theorem Sl.sv {w:World} {B:Nat->Prop} {l:List St} {ao:Option Addr} {n cap:Nat} (h:Sl w B l (.slice ao n cap)) :
  ∃ L:List Sv,L.map (·.1)=l/\(∀ q∈L,SvOk w w.heap.size q)/\∀ ad,ao=some ad->∀ j u,(svCells L)[j]?=some u->w.cell? (ad.add j)=some u:=by
 by_cases hl:l=[]
 ·subst hl
  exact⟨[],rfl,by simp,fun ad _ j u hu=>by simp[svCells] at hu⟩
 ·obtain⟨b,off,X,Y,Z,rfl,hel⟩:=h.elems hl
  obtain⟨L,hL⟩:∃ L:List Sv,L=(List.range l.length).map fun i=>(l.getD i default,X i,Y i,Z i):=⟨_,rfl⟩;have hlen:L.length=l.length:=(by rw[hL];simp);have hat:∀ i (h:i<L.length),L[i]=(l[i]'(by omega),X i,Y i,Z i):=by
   intro i hi;subst hL;have:i<l.length:=(by omega);simp[this]
  refine⟨L,?_,?_,?_⟩
  ·apply List.ext_getElem
   ·simp[hlen]
   ·intro i h1 h2
    simp only[List.getElem_map];rw[hat i (by simpa using h1)]
  ·intro q hq
   obtain⟨i,hi,rfl⟩:=List.getElem_of_mem hq;obtain⟨-,h1,h2,h3,h4⟩:=hel i (by omega);rw[hat i hi];exact⟨h1.imp fun _ _ hb=>hb,h2.imp fun _ _ hb=>hb,h3.imp fun _ _ hb=>hb,h4⟩
  ·intro ad had j u hu
   obtain rfl:=Option.some.inj had;have hj:j<L.length*6:=(by have:=(List.getElem?_eq_some_iff.1 hu).1;rw[svCells_length] at this;exact this);have hi:j / 6<L.length:=(by omega);obtain⟨s0,s1,s2,s3,s4,s5⟩:=svCells_at L (j / 6) hi;obtain⟨⟨c0,c1,c2,c3,c4,c5⟩,-⟩:=hel (j / 6) (by omega);rw[hat _ hi] at s0 s1 s2 s3 s4 s5;rw[Addr.add_lit];obtain⟨r,hr,hr6⟩:∃ r,j=j / 6*6+r/\r<6:=⟨j % 6,by omega,by omega⟩;obtain⟨d,hd⟩:∃ d,j / 6=d:=⟨_,rfl⟩;rw[hd] at hr;simp only[hd] at s0 s1 s2 s3 s4 s5 c0 c1 c2 c3 c4 c5;subst hr;rcases r with _ | _ | _ | _ | _ | _ | r
   ·rw[Nat.add_zero] at hu |-;rw[hu] at s0;rw[c0];exact s0.symm
   ·rw[hu] at s1;rw[<- Nat.add_assoc,c1];exact s1.symm
   ·rw[hu] at s2;rw[<- Nat.add_assoc,c2];exact s2.symm
   ·rw[hu] at s3;rw[<- Nat.add_assoc,c3];exact s3.symm
   ·rw[hu] at s4;rw[<- Nat.add_assoc,c4];exact s4.symm
   ·rw[hu] at s5;rw[<- Nat.add_assoc,c5];exact s5.symm
   ·omega
def OwnSt (w:World) (base:Nat) (v:Value) (L:List Sv):Prop:=w.ownsRow base 52 6 v L.length (svCells L)/\∀ q∈L,SvOk w base q
theorem OwnSt.sl {w:World} {base:Nat} {v:Value} {L:List Sv} (h:OwnSt w base v L):Sl w anyBlock (L.map (·.1)) v:=by
 obtain⟨h,hok⟩:=h;by_cases hl:L=[]
 ·subst hl
  rcases h.2 with⟨rfl,-⟩ | ⟨g,cap,cur,rfl,-,-,-,hm,-⟩
  ·exact Sl.zero w _
  ·exact .empty _ _ hm fun h=>by cases h
 ·rcases h.2 with⟨-,h0⟩ | ⟨g,cap,cur,rfl,hb,hg,hc,hm,-⟩
  ·exact absurd (List.length_eq_zero_iff.1 h0) hl
  ·have hlen:(L.map (·.1)).length=L.length:=by simp
   have hcell:=h.cells (g:=g) rfl;have:=Sl.full (w:=w) (B:=anyBlock) (L.map (·.1)) g 0 cap (fun i=>(L.getD i default).2.1) (fun i=>(L.getD i default).2.2.1) (fun i=>(L.getD i default).2.2.2) trivial (by simpa using hl) (by rw[hlen];exact hc) hm
    (fun i h=>by rw[hlen] at h;simpa using (hok _ (List.getElem_mem h)).2.2.2)
    (fun i h=>by
     rw[hlen] at h;obtain⟨s0,s1,s2,s3,s4,s5⟩:=svCells_at L i h;have r0:=hcell _ _ s0;have r1:=hcell _ _ s1;have r2:=hcell _ _ s2;have r3:=hcell _ _ s3;have r4:=hcell _ _ s4;have r5:=hcell _ _ s5;simp only[Addr.add_lit] at r0 r1 r2 r3 r4 r5;simp only[List.getElem_map,List.getD_eq_getElem?_getD,List.getElem?_eq_getElem h,Option.getD_some];exact⟨r0,r1,r2,r3,r4,r5⟩)
    (fun i h=>by rw[hlen] at h;simp only[List.getElem_map,List.getD_eq_getElem?_getD,List.getElem?_eq_getElem h,Option.getD_some];exact(hok _ (List.getElem_mem h)).1.any)
    (fun i h=>by rw[hlen] at h;simp only[List.getElem_map,List.getD_eq_getElem?_getD,List.getElem?_eq_getElem h,Option.getD_some];exact(hok _ (List.getElem_mem h)).2.1.any)
    (fun i h=>by rw[hlen] at h;simp only[List.getElem_map,List.getD_eq_getElem?_getD,List.getElem?_eq_getElem h,Option.getD_some];exact(hok _ (List.getElem_mem h)).2.2.1.any)
   rwa [hlen] at this
theorem svOk_one {w:World} {n:Nat} {L:List Sv} (h:∀ q∈L,SvOk w n q):∀ u∈svCells L,u.oneCell'=true:=by
 intro u hu;obtain⟨q,hq,h1⟩:=svCells_mem hu;obtain⟨hx,ha,hb,-⟩:=h q hq;obtain⟨_,_,e1,-⟩:=hx.len;obtain⟨_,_,e2,-⟩:=ha.len;obtain⟨_,_,e3,-⟩:=hb.len;rcases h1 with rfl | rfl | rfl | rfl | rfl | rfl
 ·simp[Value.oneCell']
 ·simp[Value.oneCell']
 ·simp[Value.oneCell']
 ·rw[e1];simp[Value.oneCell']
 ·rw[e2];simp[Value.oneCell']
 ·rw[e3];simp[Value.oneCell']
theorem wpList_append_st {w0 w:World} {ops:Array Oper} {rest:List Oper} {o:Oper} {a:Act} {Q:Exit->Act->World->Prop} (hgd:o.guard=none) (s x:Operand)
  (ho:o.op=.call { callee:=.builtin .append,args:=#[s,x],argTypes:=#[50,50] })
  (base:Nat) (v u:Value) (L M:List Sv) (hs:a.eval s=v) (hown:OwnSt w base v L) (hx:a.eval x=u) (ao:Option Addr) (cap:Nat) (hu:u=.slice ao M.length cap) (hn:ao=none->cap=0) (hcap:M.length<=cap)
  (hM:∀ q∈M,SvOk w base q) (hcell:∀ ad,ao=some ad->∀ j u,(svCells M)[j]?=some u->w.cell? (ad.add j)=some u)
  (hbel:Below base w0 w) (hbase:base<=w.heap.size) (hlen:L.length+M.length<=1000000)
  (h:∀ v' w',OwnSt w' base v' (L++M)->Below base w0 w'->base<=w'.heap.size->wpList Tryz.prog ops Q rest (a.put o.dst v') w') :
  wpList Tryz.prog ops Q (o :: rest) a w:=by
 obtain⟨i0,hi,hz0,hz1,hz2⟩:=info_parts infoStmt;subst hu;cases ao with
 | none =>
  have hc0:=hn rfl;have hm0:M=[]:=List.length_eq_zero_iff.1 (by omega);subst hm0;subst hc0;refine wpList_append_own_none hgd s x 50 ho base 52 i0 6 Tryz.underlying50 hi v L.length (svCells L) hs hown.1 hx ?_;exact h v w (by rw[List.append_nil];exact hown) hbel hbase
 | some ad =>
  refine wpList_append_own_at w hgd s x 50 ho base 52 i0 _ 6 112 Tryz.underlying50 hi hz0 hz1 hz2 rfl (by decide) v L.length (svCells L) hs hown.1 ad M.length cap (svCells M) hx
   (svCells_length M) (hcell ad rfl) (svOk_one hM) (by unfold maxLen;omega) (by omega) hbase ?_
  intro v' w' hown' hgr _ _;refine h v' w' ⟨?_,fun q hq=>?_⟩ (hbel.grown hgr hbase fun k hk=>(World.ownsRow.lt hown.1 k hk).1) (Nat.le_trans hbase hgr.size)
  ·rw[svCells_append,List.length_append]
   exact hown'
  ·have hk:∀ b,b<base->b<w.heap.size->w'.heap[b]?=w.heap[b]?:=fun b hb hlt=>hgr.block b hlt fun e=>by have:=(World.ownsRow.lt hown.1 b e.symm).1;omega
   rcases List.mem_append.1 hq with hq | hq
   ·exact(hown.2 q hq).kept hk
   ·exact(hM q hq).kept hk
theorem growSt (n:Nat) (w:World) (hn:n<=1000) :
  Calls Tryz.prog 187 #[.slice none 0 0,.int .i64 n] w fun e w'=>∃ v,e=.returned v/\OwnSt w' w.heap.size v []/\Below w.heap.size w w':=by
 rcases Nat.eq_zero_or_pos n with h0 | h0
 ·subst h0
  go_enter Tryz.func187,Tryz.ntmps187
  go_wp2;go_ret;exact⟨_,rfl,⟨⟨rfl,.inl ⟨rfl,rfl⟩⟩,by simp⟩,Below.refl _ _⟩
 ·obtain⟨i0,hi,hz0,hz1,hz2⟩:=info_parts infoStmt
  have hr:=fun ty=>Lib.run_append_nil_zeros (P:=Tryz.prog) w 50 3 ty 52 i0 _ .i64 .i64 Tryz.underlying50 Tryz.underlying3 hi hz0 n h0 (by rw[hz1];omega) (by omega) (by rw[hz2];omega);have hG1:n<=grownCap w n 0 52:=grownCap_ge w _ _ _;have hG2:grownCap w n 0 52<=maxLen:=grownCap_le_maxLen w _ _ _ (by unfold maxLen;omega);have HOWN:Hid (∀ (g cap:Nat) (W:World),W=w.drew.alloc (.cells (Builtin.zeroCells (st 0 ⟨#[]⟩ ⟨#[]⟩ (.slice none 0 0) (.slice none 0 0) (.slice none 0 0)).cells n++Builtin.zeroCells (st 0 ⟨#[]⟩ ⟨#[]⟩ (.slice none 0 0) (.slice none 0 0) (.slice none 0 0)).cells (grownCap w n 0 52-n)) 52)->g=w.heap.size->cap=grownCap w n 0 52->OwnSt W w.heap.size (.slice (some ⟨g,0,none⟩) 0 cap) []):=by
   intro g cap W hW hg hc;refine⟨⟨rfl,.inr ⟨g,cap,_,rfl,by omega,by rw[hW,hg];exact heap_alloc_new w.drew _,Nat.zero_le _,by omega,?_,rfl⟩⟩,by simp⟩;rw[Array.size_append,size_zeroCells,size_zeroCells];show n*6+_*6=cap*6
   omega
  have HB:Hid (∀ (W:World) o,W=w.drew.alloc o->Below w.heap.size w W):=by
   intro W o hW;subst hW;exact(Below.drewSelf _ _ 1).alloc (by simp) _
  obtain⟨G,hG⟩:∃ G,grownCap w n 0 52=G:=⟨_,rfl⟩;rw[hG] at hr hG1 hG2 HOWN;unfold maxLen at hG2;have hn1:¬ ((n:Int)<0):=(by omega);have hn2:0<(n:Int):=(by omega);clear hG hz0 hz1 hz2 hi;go_enter Tryz.func187,Tryz.ntmps187
  go_wp2_with (at_builtin;refine Lib.wpList_append_run _ rfl _ _ _ _ rfl _ _ rfl rfl _ _ (hr _) ?_)
  go_ret;exact⟨_,rfl,HOWN.out _ _ _ rfl rfl rfl,HB.out _ _ rfl⟩
theorem concatSt (la lb:List St) (B C:Nat->Prop) (ao:Option Addr) (ac:Nat) (bo:Option Addr) (bc sb:Nat) (w:World) (ha:Sl w B la (.slice ao la.length ac)) (hb:Sl w C lb (.slice bo lb.length bc)) (hna:la.length<=60) (hnb:lb.length<=60)
  (c0:w.cell? ⟨sb,0,none⟩=some (.slice ao la.length ac)) (c1:w.cell? ⟨sb,1,none⟩=some (.slice bo lb.length bc)) :
  Calls Tryz.prog 180 #[.slice (some ⟨sb,0,none⟩) 2 2] w fun e w'=>∃ v,e=.returned v/\Sl w' anyBlock (la++lb) v/\Below w.heap.size w w':=by
 obtain⟨LA,hA,okA,cA⟩:=ha.sv;obtain⟨LB,hB,okB,cB⟩:=hb.sv;obtain⟨_,_,ea,ha1,ha2,ha3⟩:=ha.len;obtain⟨_,_,eb,hb1,hb2,hb3⟩:=hb.len;cases ea;cases eb;have hla:LA.length=la.length:=by rw[<- hA];simp
 have hlb:LB.length=lb.length:=by rw[<- hB];simp
 obtain⟨na,hn1⟩:∃ n,la.length=n:=⟨_,rfl⟩;obtain⟨nb,hn2⟩:∃ n,lb.length=n:=⟨_,rfl⟩;rw[hn1] at c0 ha1 hla hna;rw[hn2] at c1 hb1 hlb hnb;have HFIN:Hid (∀ (W:World) v,OwnSt W w.heap.size v (LA++LB)->Sl W anyBlock (la++lb) v):=by
  intro W v h;have:=h.sl
  rwa [List.map_append,hA,hB] at this
 have HCA:=Hid.mk cA;have HCB:=Hid.mk cB;have HOA:=Hid.mk okA;have HOB:=Hid.mk okB;have HG:=Hid.mk (fun(w':World)=>growSt (na+nb) w' (by omega));have hsb:=World.block_lt_of_cell? w _ c0;clear cA cB okA okB hA hB ha hb hn1 hn2 ha2 hb2;have e2:((na+nb:Nat):Int)=(na:Int)+(nb:Int):=by omega
 go_enter Tryz.func180,Tryz.ntmps180
 go_wp2;go_loopw [3,11] (fun q i wr=>∃ (k m:Nat),k<=2/\i=.int .i64 k/\q=.int .i64 m/\(k=0->m=0)/\(k=1->m=na)/\(k=2->m=na+nb)/\wr=w) (fun _ i _=>2-(intOf i).toNat)
 case atStart=>exact⟨0,0,by omega,rfl,rfl,by omega,by omega,by omega,rfl⟩
 case round =>
  obtain⟨k,m,hk,rfl,rfl,k0,k1,k2,hw⟩:=hrel;have hw':=hw.symm;clear hw;subst hw';rcases k with _ | _ | _ | k
  ·obtain rfl:=k0 rfl
   clear k0 k1 k2;go_wp2;go_roundw
   case rel=>exact⟨1,na,by omega,by go_num,by go_num,by omega,by omega,by omega,trivial⟩
   case measure=>simp[intOf]
  ·obtain rfl:=k1 rfl
   clear k0 k1 k2;go_wp2;go_roundw
   case rel=>exact⟨2,m+nb,by omega,by go_num,by go_num,by omega,by omega,by omega,trivial⟩
   case measure=>simp[intOf]
  ·obtain rfl:=k2 rfl
   clear k0 k1 k2;go_wp2_with fail
   rw[<- e2];refine(HG.out _).mono ?_;rintro e w2 ⟨v,rfl,hown,hb2⟩;have HO2:=Hid.mk hown;clear HG hown;go_wp2;go_loopw [6,27] (fun q i wx=>∃ (k:Nat),k<=2/\i=.int .i64 k/\Hid ((k=0->OwnSt wx w.heap.size q [])/\(k=1->OwnSt wx w.heap.size q LA)/\(k=2->OwnSt wx w.heap.size q (LA++LB)))/\Below w.heap.size w wx/\w.heap.size<=wx.heap.size) (fun _ i _=>2-(intOf i).toNat)
   case atStart=>exact⟨0,by omega,rfl,⟨fun _=>HO2.out,fun h=>by omega,fun h=>by omega⟩,hb2,hb2.size⟩
   case round =>
    obtain⟨k,hk,rfl,HK,hbx,hsx⟩:=hrel;clear HO2 hb2;have d0:wr.cell? ⟨sb,0,none⟩=some (.slice ao na ac):=(by rw[hbx.cell (p:=⟨sb,0,none⟩) hsb];exact c0);have d1:wr.cell? ⟨sb,1,none⟩=some (.slice bo nb bc):=(by rw[hbx.cell (p:=⟨sb,1,none⟩) hsb];exact c1);have HDA:Hid (∀ ad,ao=some ad->∀ j u,(svCells LA)[j]?=some u->wr.cell? (ad.add j)=some u):=by
     intro ad had j u hu;have h:=HCA.out ad had j u hu;rw[hbx.cell (p:=ad.add j) (World.block_lt_of_cell? w _ h)];exact h
    have HDB:Hid (∀ ad,bo=some ad->∀ j u,(svCells LB)[j]?=some u->wr.cell? (ad.add j)=some u):=by
     intro ad had j u hu;have h:=HCB.out ad had j u hu;rw[hbx.cell (p:=ad.add j) (World.block_lt_of_cell? w _ h)];exact h
    have HPA:Hid (∀ q∈LA,SvOk wr w.heap.size q):=fun q hq=>(HOA.out q hq).grow hbx;have HPB:Hid (∀ q∈LB,SvOk wr w.heap.size q):=fun q hq=>(HOB.out q hq).grow hbx;rcases k with _ | _ | _ | k
    ·have HO:=Hid.mk (HK.out.1 rfl)
     clear HK;go_wp2_with (at_builtin;refine wpList_append_st (w0:=w) rfl _ _ rfl w.heap.size _ _ [] LA rfl HO.out rfl ao ac (by rw[hla];rfl) ha3 (by omega) HPA.out HDA.out hbx hsx (by simp;omega) ?_;intro v' w' hown' hb' hs')
     have HN:=Hid.mk hown';clear hown';go_wp2;go_roundw
     case rel=>exact⟨1,by omega,by go_num,⟨fun h=>by omega,fun _=>HN.out,fun h=>by omega⟩,hb',hs'⟩
     case measure=>simp[intOf]
    ·have HO:=Hid.mk (HK.out.2.1 rfl)
     clear HK;go_wp2_with (at_builtin;refine wpList_append_st (w0:=w) rfl _ _ rfl w.heap.size _ _ LA LB rfl HO.out rfl bo bc (by rw[hlb];rfl) hb3 (by omega) HPB.out HDB.out hbx hsx (by omega) ?_;intro v' w' hown' hb' hs')
     have HN:=Hid.mk hown';clear hown';go_wp2;go_roundw
     case rel=>exact⟨2,by omega,by go_num,⟨fun h=>by omega,fun h=>by omega,fun _=>HN.out⟩,hb',hs'⟩
     case measure=>simp[intOf]
    ·have HO:=Hid.mk (HFIN.out _ _ (HK.out.2.2 rfl))
     clear HK;go_wp2;go_ret;exact⟨_,rfl,HO.out,hbx⟩
    ·omega
  ·omega
theorem stmtParts_any (t:St) (B:Nat->Prop) (vx va vb:Value) (w:World) (hx:∃ o n c,vx=.slice o n c) (ha:Sl w B t.a va) (hb:Sl w B t.b vb) (hna:t.a.length<=60) (hnb:t.b.length<=60) :
  Calls Tryz.prog 155 #[st t.k t.s t.t vx va vb] w fun e w'=>∃ v,e=.returned v/\Sl w' anyBlock t.ab v/\Below w.heap.size w w':=by
 obtain⟨xo,xn,xc,rfl⟩:=hx;obtain⟨yo,yc,rfl,-,-,-⟩:=ha.len;obtain⟨zo,zc,rfl,-,-,-⟩:=hb.len;have HC:=Hid.mk (fun(w':World) (hw:Below w.heap.size w w') (sb:Nat) c0 c1=>concatSt t.a t.b B B yo yc zo zc sb w' (ha.grow hw) (hb.grow hw) hna hnb c0 c1);have HAB:Hid (t.ab=t.a++t.b):=rfl;obtain⟨k,hk⟩:∃ k,t.k=k:=⟨_,rfl⟩;obtain⟨s,hsn⟩:∃ s,t.s=s:=⟨_,rfl⟩;obtain⟨u,hun⟩:∃ u,t.t=u:=⟨_,rfl⟩;obtain⟨a,han⟩:∃ a,t.a=a:=⟨_,rfl⟩;obtain⟨b,hbn⟩:∃ b,t.b=b:=⟨_,rfl⟩;rw[han,hbn] at HAB HC;rw[hk,hsn,hun,han,hbn,HAB.out];clear hk hsn hun han hbn HAB ha hb hna hnb;have B0:Below w.heap.size w ((w.alloc (.cells #[.int .i64 k,.string s,.string u,.slice xo xn xc,.slice yo a.length yc,.slice zo b.length zc] 52)).alloc (.cells #[.slice yo a.length yc,.slice zo b.length zc] 50)):=((Below.refl _ _).alloc (Nat.le_refl _) _).alloc (by simp) _;go_enter Tryz.func155,Tryz.ntmps155
 go_wp2_with fail
 refine(HC.out _ B0 (w.heap.size+1) ?_ ?_).mono ?_
 ·go_simp
 ·go_simp
 rintro e w1 ⟨v,rfl,hr,hb1⟩;have B1:=B0.trans (hb1.mono (by simp;omega));have HR:=Hid.mk hr;clear B0 hb1 HC hr;go_wp2;go_ret;exact⟨_,rfl,HR.out,B1⟩
end Go.Proofs.YtkbijjkgfojchaaGreat
