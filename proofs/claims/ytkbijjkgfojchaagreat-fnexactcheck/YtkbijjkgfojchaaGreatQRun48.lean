/- All lists that wait,held against each other: the program's sameLists over terms. .. -/
import Derived.Test.YtkbijjkgfojchaaGreatQRun47
namespace Go.Proofs.YtkbijjkgfojchaaGreat
set_option maxHeartbeats 16000000
open Go.RowKit
set_option maxRecDepth 8000
set_option linter.unusedSimpArgs false
def mx:List (Prr Ex)->Nat
 | []=>0
 | q :: W=>1+szx q.b+mx W
theorem mx_append (W V:List (Prr Ex)):mx (W++V)=mx W+mx V:=by
 induction W with
 | nil=>simp[mx]
 | cons q W ih=>simp only[List.cons_append,mx,ih];omega
theorem mx_len (W:List (Prr Ex)):W.length<=mx W:=by
 induction W with
 | nil=>simp
 | cons q W ih=>simp only[List.length_cons,mx];omega
def KidX (w:World) (D:Nat->Prop) (q:Prr Ex) (K:List (Prr Ex)):Prop :=
 ∀ j (h:j<K.length) (h1:j<q.a.length) (h2:j<q.b.length),K[j].a=q.a[j].l/\K[j].b=q.b[j].l/\labX.hd q.a[j] q.b[j]/\El w D K[j].a K[j].u/\El w D K[j].b K[j].v
theorem KidX.add {w:World} {D:Nat->Prop} {q:Prr Ex} {K:List (Prr Ex)} (h:KidX w D q K) (x:Prr Ex)
  (hx:∀ (h1:K.length<q.a.length) (h2:K.length<q.b.length),x.a=q.a[K.length].l/\x.b=q.b[K.length].l/\labX.hd q.a[K.length] q.b[K.length]/\El w D x.a x.u/\El w D x.b x.v):KidX w D q (K++[x]):=by
 intro j hj h1 h2;by_cases e:j<K.length
 ·simp only[List.getElem_append_left e]
  exact h j e h1 h2
 ·obtain rfl:j=K.length:=by simp at hj;omega
  simpa using hx h1 h2
theorem KidX.mx {w:World} {D:Nat->Prop} {q:Prr Ex}:∀ {K:List (Prr Ex)},KidX w D q K->K.length<=q.a.length->q.a.length=q.b.length->mx K<=szx (q.b.take K.length):=by
 intro K;induction h:K.length generalizing K with
 | zero=>obtain rfl:=List.length_eq_zero_iff.1 h;intros;simp[Go.Proofs.YtkbijjkgfojchaaGreat.mx]
 | succ n ih =>
  intro hk hl he;obtain⟨K',x,rfl⟩:∃ K' x,K=K'++[x]:=by
   rcases List.eq_nil_or_concat K with rfl | ⟨K',x,rfl⟩
   ·simp at h
   ·exact⟨K',x,by simp⟩
  have hn:K'.length=n:=(by simpa using h);have h1:n<q.a.length:=(by omega);have h2:n<q.b.length:=(by omega);have hk':KidX w D q K':=fun j hj a1 a2=>by
   have:=hk j (by simp;omega) a1 a2
   simpa only[List.getElem_append_left hj] using this
  have:=ih hn hk' (by omega) he;rw[mx_append,szx_take _ _ h2];have hx:=(hk n (by simp;omega) h1 h2).2.1;have e:(K'++[x])[n]'(by simp;omega)=x:=by
   rw[List.getElem_append_right (by omega)];simp[hn]
  rw[e] at hx;have hs:=q.b[n].sz_eq;simp only[Go.Proofs.YtkbijjkgfojchaaGreat.mx,hx];omega
def LsX (w:World) (base:Nat) (D:Nat->Prop) (W0:List (Prr Ex)) (m k:Nat) (v:Value) (wr:World):Prop :=
 ∃ W E,(mx W=k/\mx W<=mx W0)/\OwnRX wr base v W/\MapP wr D m E/\Inv labX (treeX w) W0 W E True/\(∀ q∈W,El w D q.a q.u/\El w D q.b q.v)/\(∀ b,D b->wr.heap[b]?=w.heap[b]?/\some b≠v.ownBlock)/\Below base w wr/\base<=m/\m<wr.heap.size/\some m≠v.ownBlock
def InX2 (w:World) (base:Nat) (D:Nat->Prop) (W1:List (Prr Ex)) (q:Prr Ex) (E:List (Plc × Plc)) (m bx:Nat) (i v:Value) (wr:World):Prop :=
 ∃ K,i=.int .i64 K.length/\K.length<=q.a.length/\KidX w D q K/\OwnRX wr base v (W1++K)/\MapP wr D m E/\(∀ b,D b->wr.heap[b]?=w.heap[b]?/\some b≠v.ownBlock)/\Below base w wr/\base<=m/\m<wr.heap.size/\some m≠v.ownBlock /\
  wr.heap[bx]?=some (.cells #[q.u,q.v] 151 (0,0))/\some bx≠v.ownBlock/\base<=bx/\¬ D bx
theorem World.grownBy.widen {a c:World} (h:a.grownBy c none) (row:Option Nat):a.grownBy c row:=⟨h.os,h.tape,h.output,h.size,fun i hi _=>h.block i hi (by simp)⟩
theorem El.block {w:World} {B:Nat->Prop} {l:List Ex} {b off n cap:Nat} (h:El w B l (.slice (some ⟨b,off,none⟩) n cap)) (hl:l≠[]):B b:=by
 cases h with
 | empty _ _ _ _=>exact absurd rfl hl
 | full _ _ _ _ V hb=>exact hb
theorem sameListsX_any (W0:List (Prr Ex)) (v:Value) (w:World) (base:Nat) (D:Nat->Prop) (hown:OwnRX w base v W0) (hD:DkS w D) (hDv:∀ b,D b->some b≠v.ownBlock) (hW:∀ q∈W0,El w D q.a q.u/\El w D q.b q.v)
  (hsz:mx W0<=1099511627776) (hbase:base<=w.heap.size) :
  Calls Tryz.prog 151 #[v,.func (.func 152) #[] #[]] w fun e w'=>∃ r,e=.returned (.bool r)/\(r=true↔Sme W0)/\Below base w w':=by
 have HD:=Hid.mk hD;have HZ:=Hid.mk hsz;have H0:Hid (LsX w base D W0 w.heap.size (mx W0) v (w.alloc (.map #[] 0))):=by
  refine⟨W0,[],⟨rfl,Nat.le_refl _⟩,hown.kept fun k hk=>(World.grownBy_alloc w _ none).block k (hown.lt hk).2 (by simp),MapP.made w D,Inv.start True _ _ _ (fun _=>trivial),hW,fun b hb=>⟨(World.grownBy_alloc w _ none).block b (hD.lt hb) (by simp),hDv b hb⟩,(Below.refl _ _).alloc hbase _,hbase,by simp,fun e=>?_⟩;have:=(hown.lt e.symm).2;omega
 clear hown hDv hW hsz hD;have hmm:=@run_makeMap Tryz.prog;go_enter Tryz.func151,Tryz.ntmps151
 go_wp2;go_loopg [0] (mx W0) (fun k v wr=>Hid (LsX w base D W0 w.heap.size k v wr))
 case atStart=>exact H0
 case round =>
  obtain⟨wo,hwo⟩:∃ q,q=wr:=⟨_,rfl⟩;subst hwo;obtain⟨W,E,⟨rfl,hle⟩,hown,hmp,hinv,hel,hdk,hbel,hbm,hml,hmv⟩:=hrel.out;clear hrel H0;rcases List.eq_nil_or_concat W with rfl | ⟨W1,q,rfl⟩
  ·obtain⟨ao,cap,rfl⟩:=hown.len
   have HF:Hid (Sme W0):=hinv.done trivial;clear hinv hel hdk hmp hown;go_wp2;go_ret;exact⟨true,rfl,⟨fun _=>HF.out,fun _=>rfl⟩,hbel⟩
  ·rw[List.concat_eq_append] at hown hinv hel hle
   have Hle:=Hid.mk hle;clear hle;obtain⟨g,cap,rfl,hgc,hgm,hgb,hgl,hg0,hg1,hown1⟩:=hown.pop;obtain⟨hqa,hqb⟩:=hel q (by simp);obtain⟨au,cu,hu,hu1,hu2,-⟩:=hqa.len;obtain⟨av,cv,hv,hv1,hv2,-⟩:=hqb.len;rw[hu] at hg0 hqa;rw[hv] at hg1 hqb;have hgm2:cap<=9223372036854775807:=(by unfold maxLen at hgm;exact hgm);have hcu2:cu<=9223372036854775807:=(by unfold maxLen at hu2;exact hu2);have hcv2:cv<=9223372036854775807:=(by unfold maxLen at hv2;exact hv2);obtain⟨c,hc⟩:∃ c,W1.length=c:=⟨_,rfl⟩;rw[hc] at hg0 hg1 hgc hown1 |-;have HC:=Hid.mk hc;clear hc hown hu2 hv2 hgm;have hel1:Hid (∀ q∈W1,El w D q.a q.u/\El w D q.b q.v):=fun x hx=>hel x (List.mem_append_left _ hx);clear hel;have Hinv:=Hid.mk hinv;have Hqa:=Hid.mk hqa;have Hqb:=Hid.mk hqb;have Hu:=Hid.mk hu;have Hv:=Hid.mk hv;have Hown:=Hid.mk hown1;have Hmp:=Hid.mk hmp;have Hdk:=Hid.mk hdk;have Hbel:=Hid.mk hbel;have Hmv:=Hid.mk hmv;have Hmx:=Hid.mk (mx_append W1 [q]);clear hinv hqa hqb hu hv hown1 hmp hdk hbel hmv;have HDr:Hid (DkS wo D):=HD.out.kept fun b hb=>(Hdk.out b hb).1;obtain⟨na,hna⟩:∃ n,q.a.length=n:=⟨_,rfl⟩;obtain⟨nb,hnb⟩:∃ n,q.b.length=n:=⟨_,rfl⟩;rw[hna] at hg0 Hqa hu1 Hu;rw[hnb] at hg1 Hqb hv1 Hv;have Hna:=Hid.mk hna;have Hnb:=Hid.mk hnb;clear hna hnb;have hj1:(c:Int)<(c:Int)+1:=(by omega);by_cases hlen:na=nb
   case neg =>
    have hb1:((na:Int) != (nb:Int))=true:=(by rw[bne_iff_ne];omega);have hb2:((na:Int)==(nb:Int))=false:=(by rw[beq_eq_false_iff_ne];omega);have HF:Hid (¬ Sme W0):=fun hs=>hlen (by rw[<- Hna.out,<- Hnb.out,Sme.one.1 (Sme.app.1 (Hinv.out.a hs).1).2]);clear hlen;go_wp2;go_ret;exact⟨false,rfl,⟨fun e=>(by cases e),fun e=>absurd e HF.out⟩,Hbel.out.alloc (by have:=Hbel.out.size;omega) _⟩
   subst hlen;by_cases h0:na=0
   case pos =>
    subst h0;have HR:Hid (∀ wz,Below wo.heap.size wo wz->LsX w base D W0 w.heap.size (mx W1) (.slice (some ⟨g,0,none⟩) c cap) wz):=by
     intro wz hb;have hbl:=Hbel.out.size;exact⟨W1,E,⟨rfl,by have:=Hle.out;rw[Hmx.out] at this;omega⟩,Hown.out.kept fun k hk=>hb.block k (Hown.out.lt hk).2,Hmp.out.kept (hb.block _ Hmp.out.lt),Hinv.out.empty (List.length_eq_zero_iff.1 Hna.out) (List.length_eq_zero_iff.1 Hnb.out),hel1.out,
      fun b hb'=>⟨(hb.block b (HDr.out.lt hb')).trans (Hdk.out b hb').1,(Hdk.out b hb').2⟩,Hbel.out.trans (hb.mono (by omega)),hbm,Nat.lt_of_lt_of_le Hmp.out.lt hb.size,Hmv.out⟩
    go_wp2;go_roundg (mx W1)
    case measure=>rw[List.concat_eq_append,Hmx.out];simp only[mx];omega
    case rel=>exact HR.out _ ((Below.refl _ _).alloc (Nat.le_refl _) _)
   have hp:0<na:=(by omega);have hp1:(0:Int)<na:=(by omega);have hz1:((na:Int)==0)=false:=(by rw[beq_eq_false_iff_ne];omega);have hz2:((na:Int) != (na:Int))=false:=(by simp);have hza:q.a≠[]:=(by rintro e;have:=Hna.out;rw[e] at this;simp at this;omega);have hzb:q.b≠[]:=(by rintro e;have:=Hnb.out;rw[e] at this;simp at this;omega);obtain⟨ba,oa,U,rfl,hela⟩:=Hqa.out.elems hza;obtain⟨bb,ob,V,rfl,helb⟩:=Hqb.out.elems hzb;have Hda:=Hid.mk (Hqa.out.block hza);have Hdb:=Hid.mk (Hqb.out.block hzb);have Hta:=Hid.mk (treeX_eq Hqa.out hza);have Htb:=Hid.mk (treeX_eq Hqb.out hzb);have Hela:=Hid.mk hela;have Helb:=Hid.mk helb;clear hela helb hza hzb h0;have HG0:=Hid.mk (World.grownBy_alloc wo (.cells #[.slice (some ⟨ba,oa,none⟩) na cu,.slice (some ⟨bb,ob,none⟩) na cv] 151) none);have HB0:=Hid.mk (MapKept.heap_alloc wo (.cells #[.slice (some ⟨ba,oa,none⟩) na cu,.slice (some ⟨bb,ob,none⟩) na cv] 151)).1;have HDj:Hid (∀ W,wo.grownBy W (some w.heap.size)->DkS W D):=fun W h=>HDr.out.kept fun b hb=>h.block b (HDr.out.lt hb) (by intro e;exact Hmp.out.not HDr.out hb (by simpa using e));go_wp2_with fail
   refine(joinX_any _ D w.heap.size E ba oa na cu bb ob na cv hp hp (HDj.out _ (World.grownBy.widen HG0.out _)) Hda.out Hdb.out (Hmp.out.kept (HG0.out.block _ Hmp.out.lt (by simp))) Hinv.out.up).mono ?_;rintro e wj ⟨r,E',rfl,hmj,huj,hjj,hgj⟩;have Hmj:=Hid.mk hmj;have Hgj:=Hid.mk ((World.grownBy.widen HG0.out (some w.heap.size)).trans hgj);have HBj:Hid (wj.heap[wo.heap.size]?=some (.cells #[.slice (some ⟨ba,oa,none⟩) na cu,.slice (some ⟨bb,ob,none⟩) na cv] 151 (0,0))):=(hgj.block _ (Array.getElem?_eq_some_iff.1 HB0.out).1 (by intro e;simp at e;omega)).trans HB0.out;have Huj:=Hid.mk huj;have Hjj:=Hid.mk hjj;have Hbj:Hid (Below base w wj):=Hbel.out.grown Hgj.out (Nat.le_trans hbase Hbel.out.size) (by intro k hk;simp at hk;omega);have Howj:Hid (OwnRX wj base (.slice (some ⟨g,0,none⟩) c cap) W1):=Hown.out.kept fun k hk=>Hgj.out.block k (Hown.out.lt hk).2 (by intro e;simp[Value.ownBlock] at hk;have:=Hmv.out;simp[Value.ownBlock] at this;simp at e;omega);have Hdkj:Hid (∀ b,D b->wj.heap[b]?=w.heap[b]?/\some b≠(Value.slice (some ⟨g,0,none⟩) c cap).ownBlock):=fun b hb=>⟨(Hgj.out.block b (HDr.out.lt hb) (by intro e;exact Hmp.out.not HDr.out hb (by simpa using e))).trans (Hdk.out b hb).1,(Hdk.out b hb).2⟩;have Hsj:Hid (wo.heap.size+1<=wj.heap.size):=(by have:=hgj.size;simpa [Hid] using this);have hmlj:w.heap.size<wj.heap.size:=hmj.lt;clear hmj huj hjj hgj HG0 HB0 HDj Hmp Hown Hdk;cases r with
   | false =>
    have HR:Hid (LsX w base D W0 w.heap.size (mx W1) (.slice (some ⟨g,0,none⟩) c cap) wj) :=
     ⟨W1,E',⟨rfl,by have:=Hle.out;rw[Hmx.out] at this;omega⟩,Howj.out,Hmj.out,Hinv.out.skip Hta.out Htb.out Hjj.out Huj.out,hel1.out,Hdkj.out,Hbj.out,hbm,hmlj,Hmv.out⟩
    go_wp2;go_roundg (mx W1)
    case measure=>rw[List.concat_eq_append,Hmx.out];simp only[mx];omega
    case rel=>exact HR.out
   | true =>
    have Hinvj:=Hid.mk (Hinv.out.join Hta.out Htb.out Hjj.out Huj.out);clear Hinv Hta Htb Hjj Huj;have d0:wj.cell? ⟨wo.heap.size,0,none⟩=some (.slice (some ⟨ba,oa,none⟩) na cu):=(by rw[cell_of_row wj _ 0 _ _ (0,0) HBj.out];rfl);have d1:wj.cell? ⟨wo.heap.size,1,none⟩=some (.slice (some ⟨bb,ob,none⟩) na cv):=(by rw[cell_of_row wj _ 1 _ _ (0,0) HBj.out];rfl);have HI:Hid (InX2 w base D W1 q E' w.heap.size wo.heap.size (.int .i64 0) (.slice (some ⟨g,0,none⟩) c cap) wj):=by
     refine⟨[],rfl,Nat.zero_le _,fun j h=>absurd h (Nat.not_lt_zero j),by rw[List.append_nil];exact Howj.out,Hmj.out,Hdkj.out,Hbj.out,hbm,hmlj,Hmv.out,by rw[Hu.out,Hv.out];exact HBj.out,?_,?_,?_⟩
     ·intro e
      simp[Value.ownBlock] at e;omega
     ·exact Nat.le_trans hbase Hbel.out.size
     ·intro e
      have:=HDr.out.lt e;omega
    clear Hmj Hdkj Hbj Howj HBj Hgj;go_wp2;go_loopw [0,45] (fun v i wz=>Hid (InX2 w base D W1 q E' w.heap.size wo.heap.size i v wz)) (fun _ i _=>q.a.length-(intOf i).toNat)
    case atStart=>exact HI
    case round =>
     obtain⟨v,hvq⟩:∃ q,q=u0:=⟨_,rfl⟩;subst hvq;obtain⟨KK,rfl,hKl,hkid,hok,hmk,hdk2,hbk,-,hmlk,hmvk,hbox,hbxv,hbxb,hbxD⟩:=hrel.out;clear hrel HI d0 d1;rw[Hu.out,Hv.out] at hbox;have hbl2:=(Array.getElem?_eq_some_iff.1 hbox).1;have d0:wr.cell? ⟨wo.heap.size,0,none⟩=some (.slice (some ⟨ba,oa,none⟩) na cu):=(by rw[cell_of_row wr _ 0 _ _ (0,0) hbox];rfl);have d1:wr.cell? ⟨wo.heap.size,1,none⟩=some (.slice (some ⟨bb,ob,none⟩) na cv):=(by rw[cell_of_row wr _ 1 _ _ (0,0) hbox];rfl);have Hbox:=Hid.mk hbox;have Hkid:=Hid.mk hkid;have Hok:=Hid.mk hok;have Hmk:=Hid.mk hmk;have Hdk2:=Hid.mk hdk2;have Hbk:=Hid.mk hbk;have Hmvk:=Hid.mk hmvk;have Hbxv:=Hid.mk hbxv;have HbxD:=Hid.mk hbxD;clear hbox hkid hok hmk hdk2 hbk hmvk hbxv hbxD;have HDr2:Hid (DkS wr D):=HD.out.kept fun b hb=>(Hdk2.out b hb).1;rw[Hna.out] at hKl;obtain⟨kk,hkk⟩:∃ k,KK.length=k:=⟨_,rfl⟩;rw[hkk] at hKl |-;have Hkk:=Hid.mk hkk;clear hkk;by_cases hkl:kk<na
     ·have hi1:(kk:Int)<na:=by omega
      have hka:kk<q.a.length:=(by rw[Hna.out];exact hkl);have hkb:kk<q.b.length:=(by rw[Hnb.out];exact hkl);obtain⟨⟨x0,x1,x2,x3⟩,hsa,-⟩:=Hela.out kk hka;obtain⟨⟨y0,y1,y2,y3⟩,hsb,-⟩:=Helb.out kk hkb;have HH:Hid (∀ b:Bool,hdB q.a[kk] q.b[kk]=b->(b=false->¬ Sme W0)/\(b=true->labX.hd q.a[kk] q.b[kk])):=by
       intro b hb;subst hb;refine⟨fun hf hs=>?_,fun h=>hdB_iff.1 h⟩;have:=(Hinvj.out.a hs).2.1;have:labX.hd q.a[kk] q.b[kk]:=labX.self _ _ (by simp only[this]);rw[hdB_iff.2 this] at hf;cases hf
      have HAd0:Hid (∀ (u v:Value) (b:Bool),U kk=u->V kk=v->b=true->hdB q.a[kk] q.b[kk]=b->KidX w D q (KK++[⟨q.a[kk].l,q.b[kk].l,u,v⟩])):=by
       rintro u v b rfl rfl hb1 hb2;refine Hkid.out.add _ fun h1 h2=>?_;have hq:=Hkk.out;subst hq;exact⟨rfl,rfl,hdB_iff.1 (hb2.trans hb1),hsa,hsb⟩
      obtain⟨aau,cau,hua,-,-,-⟩:=hsa.len;obtain⟨aav,cav,hub,-,-,-⟩:=hsb.len;have HAd:=Hid.mk (fun(b:Bool)=>HAd0.out _ _ b hua hub);clear HAd0;rw[hua] at x3;rw[hub] at y3;obtain⟨tx,htx⟩:∃ t,q.a[kk]=t:=⟨_,rfl⟩;obtain⟨ty,hty⟩:∃ t,q.b[kk]=t:=⟨_,rfl⟩;rw[htx,hty] at HH HAd;rw[htx] at x0 x1 x2 x3;rw[hty] at y0 y1 y2 y3;clear hsa hsb hua hub htx hty hka hkb;have hbd:ba<w.heap.size:=(by have:=HD.out.lt Hda.out;exact this);have hbd2:bb<w.heap.size:=(by have:=HD.out.lt Hdb.out;exact this);have HXA:Hid (∀ w':World,(∀ b0,(D b0\/b0=wo.heap.size)->w'.heap[b0]?=wr.heap[b0]?)->w'.cell? ⟨ba,oa+kk*4,none⟩=some (.int .i64 tx.k)/\w'.cell? ⟨ba,oa+kk*4+1,none⟩=some (.int .i64 tx.n)/\w'.cell? ⟨ba,oa+kk*4+2,none⟩=some (.string tx.s)/\w'.cell? ⟨ba,oa+kk*4+3,none⟩=some (.slice aau tx.l.length cau)):=by
       intro w' hw;have hh:=(hw ba (.inl Hda.out)).trans (Hdk2.out ba Hda.out).1;exact⟨by rw[World.cell?_of_block (w:=w) hh];exact x0,by rw[World.cell?_of_block (w:=w) hh];exact x1,by rw[World.cell?_of_block (w:=w) hh];exact x2,by rw[World.cell?_of_block (w:=w) hh];exact x3⟩
      have HXB:Hid (∀ w':World,(∀ b0,(D b0\/b0=wo.heap.size)->w'.heap[b0]?=wr.heap[b0]?)->w'.cell? ⟨bb,ob+kk*4,none⟩=some (.int .i64 ty.k)/\w'.cell? ⟨bb,ob+kk*4+1,none⟩=some (.int .i64 ty.n)/\w'.cell? ⟨bb,ob+kk*4+2,none⟩=some (.string ty.s)/\w'.cell? ⟨bb,ob+kk*4+3,none⟩=some (.slice aav ty.l.length cav)):=by
       intro w' hw;have hh:=(hw bb (.inl Hdb.out)).trans (Hdk2.out bb Hdb.out).1;exact⟨by rw[World.cell?_of_block (w:=w) hh];exact y0,by rw[World.cell?_of_block (w:=w) hh];exact y1,by rw[World.cell?_of_block (w:=w) hh];exact y2,by rw[World.cell?_of_block (w:=w) hh];exact y3⟩
      have HXD:Hid (∀ w':World,(∀ b0,(D b0\/b0=wo.heap.size)->w'.heap[b0]?=wr.heap[b0]?)->∀ o,w'.cell? ⟨wo.heap.size,o,none⟩=#[Value.slice (some ⟨ba,oa,none⟩) na cu,.slice (some ⟨bb,ob,none⟩) na cv][o]?):=fun w' hw o=>cell_of_row w' _ o _ _ (0,0) ((hw _ (.inr rfl)).trans Hbox.out);clear x0 x1 x2 x3 y0 y1 y2 y3 d0 d1;have S0:Hid (∀ b0,(D b0\/b0=wo.heap.size)->wr.drew.heap[b0]?=wr.heap[b0]?):=fun _ _=>rfl;go_wp2_with fail
      refine wp_region_held_drew (S:=fun(w':World)=>∀ b0,(D b0\/b0=wo.heap.size)->w'.heap[b0]?=wr.heap[b0]?) (by kernel_rfl) S0.out (fun _=>?_);refine takeHD (i:=0) (v:=.func (.func 152) #[] #[]) (some 49) rfl rfl (by kernel_rfl) (by kernel_rfl) (by kernel_rfl) (fun _ _ _ h=>h) (Or.inl ⟨by kernel_rfl,fun w' hw=>?_⟩) S0.out ?_
      ·go_simp
      simp only[Act.put,List.setIfInBounds_toArray];refine takeHD (i:=1) (v:=.pointer (some ⟨wo.heap.size,0,none⟩)) (some 50) rfl rfl (by kernel_rfl) (by kernel_rfl) (by kernel_rfl) (fun _ _ _ h=>h) (Or.inl ⟨by kernel_rfl,fun w' hw=>?_⟩) S0.out ?_
      ·go_simp
      simp only[Act.put,List.setIfInBounds_toArray];refine takeHD (i:=2) (v:=.slice (some ⟨ba,oa,none⟩) na cu) (some 51) rfl rfl (by kernel_rfl) (by kernel_rfl) (by kernel_rfl) (fun _ _ _ h=>h) (Or.inl ⟨by kernel_rfl,fun w' hw=>?_⟩) S0.out ?_
      ·have hq:=HXD.out w' hw
       go_simp
      simp only[Act.put,List.setIfInBounds_toArray];refine takeHD (i:=3) (v:=.int .i64 kk) (some 52) rfl rfl (by kernel_rfl) (by kernel_rfl) (by kernel_rfl) (fun _ _ _ h=>h) (Or.inl ⟨by kernel_rfl,fun w' hw=>?_⟩) S0.out ?_
      ·go_simp
      simp only[Act.put,List.setIfInBounds_toArray];refine takeHD (i:=4) (v:=.pointer (some ⟨ba,oa+kk*4,none⟩)) (some 53) rfl rfl (by kernel_rfl) (by kernel_rfl) (by kernel_rfl) (fun _ _ _ h=>h) (Or.inl ⟨by kernel_rfl,fun w' hw=>?_⟩) S0.out ?_
      ·go_simp
      simp only[Act.put,List.setIfInBounds_toArray];refine takeHD (i:=5) (v:=xx tx.k tx.n tx.s (.slice aau tx.l.length cau)) (some 54) rfl rfl (by kernel_rfl) (by kernel_rfl) (by kernel_rfl) (fun _ _ _ h=>h) (Or.inl ⟨by kernel_rfl,fun w' hw=>?_⟩) S0.out ?_
      ·obtain⟨p0,p1,p2,p3⟩:=HXA.out w' hw
       go_simp
      simp only[Act.put,List.setIfInBounds_toArray];refine takeHD (i:=6) (v:=.pointer (some ⟨wo.heap.size,1,none⟩)) (some 55) rfl rfl (by kernel_rfl) (by kernel_rfl) (by kernel_rfl) (fun _ _ _ h=>h) (Or.inl ⟨by kernel_rfl,fun w' hw=>?_⟩) S0.out ?_
      ·go_simp
      simp only[Act.put,List.setIfInBounds_toArray];refine takeHD (i:=7) (v:=.slice (some ⟨bb,ob,none⟩) na cv) (some 56) rfl rfl (by kernel_rfl) (by kernel_rfl) (by kernel_rfl) (fun _ _ _ h=>h) (Or.inl ⟨by kernel_rfl,fun w' hw=>?_⟩) S0.out ?_
      ·have hq:=HXD.out w' hw
       go_simp
      simp only[Act.put,List.setIfInBounds_toArray];refine takeHD (i:=8) (v:=.int .i64 kk) (some 57) rfl rfl (by kernel_rfl) (by kernel_rfl) (by kernel_rfl) (fun _ _ _ h=>h) (Or.inl ⟨by kernel_rfl,fun w' hw=>?_⟩) S0.out ?_
      ·go_simp
      simp only[Act.put,List.setIfInBounds_toArray];refine takeHD (i:=9) (v:=.pointer (some ⟨bb,ob+kk*4,none⟩)) (some 58) rfl rfl (by kernel_rfl) (by kernel_rfl) (by kernel_rfl) (fun _ _ _ h=>h) (Or.inl ⟨by kernel_rfl,fun w' hw=>?_⟩) S0.out ?_
      ·go_simp
      simp only[Act.put,List.setIfInBounds_toArray];refine takeHD (i:=10) (v:=xx ty.k ty.n ty.s (.slice aav ty.l.length cav)) (some 59) rfl rfl (by kernel_rfl) (by kernel_rfl) (by kernel_rfl) (fun _ _ _ h=>h) (Or.inl ⟨by kernel_rfl,fun w' hw=>?_⟩) S0.out ?_
      ·obtain⟨p0,p1,p2,p3⟩:=HXB.out w' hw
       go_simp
      simp only[Act.put,List.setIfInBounds_toArray];refine wpAnyH_ready (rs:=[11]) (by kernel_rfl) (by simp) ?_;refine AllReadyH.cons rfl (fun K hK=>?_) AllReadyH.nil;rw[if_pos (by kernel_rfl)];go_wp2_with fail
      refine(withinX_any tx ty aau _ cau aav _ cav _).mono ?_;rintro e w3 ⟨mb,rfl,hmb,hmbl,hb3⟩;have S1:Hid (∀ b0,(D b0\/b0=wo.heap.size)->w3.heap[b0]?=wr.heap[b0]?):=by
       intro b0 h0;refine hb3.block b0 ?_;rcases h0 with h0 | rfl
       ·exact HDr2.out.lt h0
       ·exact hbl2
      refine hK.out _ _ S1.out (fun _=>?_);clear hK K;obtain⟨R,hR⟩:∃ R,hdB tx ty=R:=⟨_,rfl⟩;rw[hR];have HR:=Hid.mk hR;clear hR;refine takeHD (i:=12) (v:=.tuple #[.slice (some ⟨mb,0,none⟩) 1 1,.bool R]) (some 48) rfl rfl (by kernel_rfl) (by kernel_rfl) (by kernel_rfl) (fun _ _ _ h=>h) (Or.inl ⟨by kernel_rfl,fun w' hw=>?_⟩) S1.out ?_
      ·go_simp
      simp only[Act.put,List.setIfInBounds_toArray];refine takeHD (i:=13) (v:=.slice (some ⟨mb,0,none⟩) 1 1) (some 61) rfl rfl (by kernel_rfl) (by kernel_rfl) (by kernel_rfl) (fun _ _ _ h=>h) (Or.inl ⟨by kernel_rfl,fun w' hw=>?_⟩) S1.out ?_
      ·go_simp
      simp only[Act.put,List.setIfInBounds_toArray];refine takeHD (i:=14) (v:=.bool R) (some 62) rfl rfl (by kernel_rfl) (by kernel_rfl) (by kernel_rfl) (fun _ _ _ h=>h) (Or.inl ⟨by kernel_rfl,fun w' hw=>?_⟩) S1.out ?_
      ·go_simp
      simp only[Act.put,List.setIfInBounds_toArray];refine takeHD (i:=15) (v:=.slice (some ⟨mb,0,none⟩) 1 1) (some 9) rfl rfl (by kernel_rfl) (by kernel_rfl) (by kernel_rfl) (fun _ _ _ h=>h) (Or.inl ⟨by kernel_rfl,fun w' hw=>?_⟩) S1.out ?_
      ·go_simp
      simp only[Act.put,List.setIfInBounds_toArray];refine takeHD (i:=16) (v:=.bool R) (some 10) rfl rfl (by kernel_rfl) (by kernel_rfl) (by kernel_rfl) (fun _ _ _ h=>h) (Or.inl ⟨by kernel_rfl,fun w' hw=>?_⟩) S1.out ?_
      ·go_simp
      simp only[Act.put,List.setIfInBounds_toArray];refine wpAnyH_done (by kernel_rfl) ?_ _;clear HXA HXB HXD S0;have Hb3:Hid (Below wr.heap.size wr w3):=(Below.drewSelf _ _ 1:Below wr.heap.size wr wr.drew).trans hb3;have Hmb:=Hid.mk hmb;clear hb3 hmb;cases R with
      | false =>
       have HF:Hid (¬ Sme W0):=(HH.out _ HR.out).1 rfl;have HBB:Hid (Below base w w3):=Hbk.out.trans (Hb3.out.mono (Nat.le_trans hbase Hbk.out.size));go_wp2;go_ret;exact⟨false,rfl,⟨fun e=>(by cases e),fun e=>absurd e HF.out⟩,HBB.out⟩
      | true =>
       have Hok3:Hid (OwnRX w3 base v (W1++KK)):=Hok.out.kept fun k hk=>Hb3.out.block k (Hok.out.lt hk).2;have HBB:Hid (Below base w w3):=Hbk.out.trans (Hb3.out.mono (Nat.le_trans hbase Hbk.out.size));have HLen:Hid ((W1++KK).length+1<=2199023255552):=by
        refine Hid.mk ?_;have h1:=mx_len W1;have h2:=Hmx.out;have h3:=HZ.out;have h4:=szx_length q.b;have h5:=Hnb.out;have h6:=Hkk.out;have h7:=HC.out;simp only[mx] at h2;rw[List.length_append];have h8:=Hle.out;rw[h2] at h8;omega
       have HOne:Hid (∀ x∈([⟨tx.l,ty.l,.slice aau tx.l.length cau,.slice aav ty.l.length cav⟩]:List (Prr Ex)),x.u.oneCell'=true/\x.v.oneCell'=true):=by
        intro x hx;obtain rfl:x=_:=by simpa using hx
        exact⟨rfl,rfl⟩
       go_wp2_with (at_builtin;refine wpList_append_rX rfl _ _ rfl base _ (W1++KK) [⟨tx.l,ty.l,.slice aau tx.l.length cau,.slice aav ty.l.length cav⟩] rfl Hok3.out mb 1 rfl Hmb.out HOne.out (Nat.le_trans hbase HBB.out.size) HLen.out ?_;intro v4 w4 ho4 hg4 hv4)
       have hs34:=hg4.size;have hs23:=Hb3.out.size;have hne4:∀ b,b<w3.heap.size->some b≠v.ownBlock->some b≠v4.ownBlock:=by
        intro b hb h1;rcases hv4 with h | h
        ·rw[h];exact h1
        ·rw[h];intro e;simp at e;omega
       have hin:InX2 w base D W1 q E' w.heap.size wo.heap.size (.int .i64 (kk+1:Nat)) v4 w4:=by
        have hk3:∀ b,b<wr.heap.size->some b≠v.ownBlock->w4.heap[b]?=wr.heap[b]?:=fun b hb h1=>(hg4.block b (by omega) h1).trans (Hb3.out.block b hb);refine⟨KK++[⟨tx.l,ty.l,.slice aau tx.l.length cau,.slice aav ty.l.length cav⟩],by simp[Hkk.out],by rw[List.length_append,Hkk.out,Hna.out];exact hkl,HAd.out true rfl HR.out,by rw[<- List.append_assoc];exact ho4,
         Hmk.out.kept (hk3 _ Hmk.out.lt Hmvk.out),fun b hb=>⟨(hk3 b (HDr2.out.lt hb) (Hdk2.out b hb).2).trans (Hdk2.out b hb).1,hne4 b (by have:=HDr2.out.lt hb;omega) (Hdk2.out b hb).2⟩,HBB.out.grown hg4 (Nat.le_trans hbase HBB.out.size) (fun k hk=>(Hok3.out.lt hk).1),hbm,by omega,hne4 _ (by have:=Hmk.out.lt;omega) Hmvk.out,
         by rw[Hu.out,Hv.out];exact(hk3 _ hbl2 Hbxv.out).trans Hbox.out,hne4 _ (by omega) Hbxv.out,hbxb,HbxD.out⟩
       have HIN:=Hid.mk hin;clear hin hne4 ho4 hg4 hv4;go_wp2;go_roundw
       case measure=>have:=Hna.out;simp[intOf];omega
       case rel=>exact HIN.out
     ·obtain rfl:kk=na:=by omega
      have hi1:¬ ((kk:Int)<(kk:Int)):=(by omega);have HMz:Hid (mx (W1++KK)<mx (W1++[q])):=by
       refine Hid.mk ?_;have h1:=Hkid.out.mx (by rw[Hkk.out,Hna.out];exact Nat.le_refl _) (by rw[Hna.out,Hnb.out]);have h2:=szx_take_le q.b KK.length;rw[mx_append,mx_append];simp only[mx];omega
      have HR:Hid (LsX w base D W0 w.heap.size (mx (W1++KK)) v wr):=by
       refine⟨W1++KK,E',⟨rfl,Nat.le_trans (Nat.le_of_lt HMz.out) Hle.out⟩,Hok.out,Hmk.out,?_,?_,Hdk2.out,Hbk.out,hbm,hmlk,Hmvk.out⟩
       ·have hK2:∀ j (h:j<KK.length),∃ (h1:j<q.a.length) (h2:j<q.b.length),KK[j].a=q.a[j].l/\KK[j].b=q.b[j].l/\labX.hd q.a[j] q.b[j]/\El w D KK[j].a KK[j].u/\El w D KK[j].b KK[j].v:=by
         intro j h;have h1:j<q.a.length:=(by rw[Hna.out,<- Hkk.out];exact h);have h2:j<q.b.length:=(by rw[Hnb.out,<- Hkk.out];exact h);exact⟨h1,h2,Hkid.out j h h1 h2⟩
        refine Hinvj.out.kids (by rw[Hna.out,Hnb.out]) (fun h=>h) (fun _ h=>h) (fun _ i h h'=>(Hkid.out i (by rw[Hkk.out,<- Hna.out];exact h) h h').2.2.1) ?_ ?_
        ·intro x hx
         obtain⟨j,hj,rfl⟩:=List.mem_iff_getElem.1 hx;obtain⟨h1,h2,e1,e2,-⟩:=hK2 j hj;exact⟨j,0,h1,h2,by simp[labX],by simp[labX],by rw[e1];rfl,by rw[e2];rfl⟩
        ·intro i h h' j k k'
         have hi:i<KK.length:=(by rw[Hkk.out,<- Hna.out];exact h);obtain⟨e1,e2,-⟩:=Hkid.out i hi h h';obtain rfl:j=0:=by simp[labX] at k;omega
         exact⟨_,List.getElem_mem hi,e1,e2⟩
       ·intro x hx
        rcases List.mem_append.1 hx with hx | hx
        ·exact hel1.out x hx
        ·obtain⟨j,hj,rfl⟩:=List.mem_iff_getElem.1 hx
         have h1:j<q.a.length:=(by rw[Hna.out,<- Hkk.out];exact hj);have h2:j<q.b.length:=(by rw[Hnb.out,<- Hkk.out];exact hj);exact(Hkid.out j hj h1 h2).2.2.2
      go_wp2;go_roundg (mx (W1++KK))
      case measure=>exact HMz.out
      case rel=>exact HR.out
theorem sameExprs_any (W0:List (Prr Ex)) (v:Value) (w:World) (base:Nat) (D:Nat->Prop) (hown:OwnRX w base v W0) (hD:DkS w D) (hDv:∀ b,D b->some b≠v.ownBlock) (hW:∀ q∈W0,El w D q.a q.u/\El w D q.b q.v)
  (hsz:mx W0<=1099511627776) (hbase:base<=w.heap.size) :
  Calls Tryz.prog 112 #[v] w fun e w'=>∃ r,e=.returned (.bool r)/\(r=true↔Sme W0)/\Below base w w':=by
 have HS:=Hid.mk (sameListsX_any W0 v w base D hown hD hDv hW hsz hbase);clear hown hD hDv hW hsz;go_enter Tryz.func112,Tryz.ntmps112
 go_wp2_with fail
 refine HS.out.mono ?_;rintro e w' ⟨r,rfl,hr,hb⟩;have HR:=Hid.mk hr;clear hr;go_wp2;go_ret;exact⟨r,rfl,HR.out,hb⟩
def DD (w:World) (n:Nat) (b:Nat):Prop:=b<n/\(∃ c e f,w.heap[b]?=some (.cells c e f))/\uf w b
theorem DD.dks (w:World) (n:Nat):DkS w (DD w n):=fun _ h=>h.2
theorem El.toD {w w':World} {l:List Ex} {v:Value} (h:El w (uf w) l v) (hb:Below w.heap.size w w') {n:Nat} (hn:w.heap.size<=n):El w' (DD w' n) l v:=by
 have h1:El w (fun b=>b<w.heap.size/\uf w b/\∃ c e f,w.heap[b]?=some (.cells c e f)) l v:=h.cells.imp fun b hb hlt=>⟨hlt,hb.1,hb.2⟩;refine(h1.grow hb).imp fun b hq _=>?_;obtain⟨hlt,hf,c,e,f,hc⟩:=hq;have hh:=hb.block b hlt;exact⟨by omega,⟨c,e,f,hh.trans hc⟩,fun o=>by rw[World.frozen?_of_block (w:=w) (a:=⟨b,o,none⟩) hh];exact hf o⟩
theorem DD.new {w:World} {g n:Nat} {c:Array Value} {e:TypeId} (hg:w.heap[g]?=some (.cells c e (0,0))) (hn:g<n):DD w n g :=
 ⟨hn,⟨_,_,_,hg⟩,fun o=>by simp[World.frozen?,hg]⟩
theorem El.alone {w:World} {D:Nat->Prop} {a:Ex} {x:Value} {g:Nat} (hg:w.heap[g]?=some (.cells #[.int .i64 a.k,.int .i64 a.n,.string a.s,x] 54 (0,0))) (hD:D g) (hs:a.s.size<=maxLen) (hx:El w D a.l x):El w D [a] (.slice (some ⟨g,0,none⟩) 1 1):=by
 have:=El.full (w:=w) (B:=D) [a] g 0 1 (fun _=>x) hD (by simp) (by simp) (by unfold maxLen;omega) (fun i h=>by
   have h0:i=0:=(by simpa using h);subst h0;exact hs)
  (fun i h=>by
   have h0:i=0:=(by simpa using h);subst h0;exact⟨by rw[cell_of_row w _ _ _ _ (0,0) hg];rfl,by rw[cell_of_row w _ _ _ _ (0,0) hg];rfl,by rw[cell_of_row w _ _ _ _ (0,0) hg];rfl,by rw[cell_of_row w _ _ _ _ (0,0) hg];rfl⟩)
  (fun i h=>by
   have h0:i=0:=(by simpa using h);subst h0;exact hx)
 exact this
theorem implSameExpr_any (a b:Ex) (x y:Value) (w:World) (hx:El w (uf w) a.l x) (hy:El w (uf w) b.l y) (hsa:a.s.size<=maxLen) (hsb:b.s.size<=maxLen) (hz:b.sz<=68719476736) :
  Calls Tryz.prog 75 #[xx a.k a.n a.s x,xx b.k b.n b.s y] w fun e w'=>e=.returned (.bool (sameX a b))/\Below w.heap.size w w':=by
 obtain⟨xo,xc,rfl,-⟩:=hx.len;obtain⟨yo,yc,rfl,-⟩:=hy.len;have B2:Below w.heap.size w ((w.alloc (.cells #[.int .i64 a.k,.int .i64 a.n,.string a.s,.slice xo a.l.length xc] 54)).alloc (.cells #[.int .i64 b.k,.int .i64 b.n,.string b.s,.slice yo b.l.length yc] 54)):=((Below.refl _ _).alloc (Nat.le_refl _) _).alloc (by simp) _;have S2:((w.alloc (.cells #[.int .i64 a.k,.int .i64 a.n,.string a.s,.slice xo a.l.length xc] 54)).alloc (.cells #[.int .i64 b.k,.int .i64 b.n,.string b.s,.slice yo b.l.length yc] 54)).heap.size=w.heap.size+2:=by simp
 have HB2:=Hid.mk B2;have HS2:=Hid.mk S2;have HX:=Hid.mk hx;have HY:=Hid.mk hy;have HA:=Hid.mk hsa;have HB:=Hid.mk hsb;have HZ:=Hid.mk hz;clear B2 S2 hx hy hsa hsb hz;go_enter Tryz.func75,Tryz.ntmps75
 go_wp2_with fail
 generalize (w.alloc (.cells #[.int .i64 a.k,.int .i64 a.n,.string a.s,.slice xo a.l.length xc] 54)).alloc (.cells #[.int .i64 b.k,.int .i64 b.n,.string b.s,.slice yo b.l.length yc] 54)=W2 at *;obtain⟨hA,hB,hP,hb5,hs5⟩:=three_alloc W2 (w.heap.size+1+1) HS2.out (.cells #[.int .i64 a.k,.int .i64 a.n,.string a.s,.slice xo a.l.length xc] 54) (.cells #[.int .i64 b.k,.int .i64 b.n,.string b.s,.slice yo b.l.length yc] 54)
  (.cells #[.slice (some ⟨w.heap.size+1+1,0,none⟩) 1 1,.slice (some ⟨w.heap.size+1+1+1,0,none⟩) 1 1] 151)
 generalize ((W2.alloc (.cells #[.int .i64 a.k,.int .i64 a.n,.string a.s,.slice xo a.l.length xc] 54)).alloc (.cells #[.int .i64 b.k,.int .i64 b.n,.string b.s,.slice yo b.l.length yc] 54)).alloc
  (.cells #[.slice (some ⟨w.heap.size+1+1,0,none⟩) 1 1,.slice (some ⟨w.heap.size+1+1+1,0,none⟩) 1 1] 151)=W5 at *
 have hbw:Below w.heap.size w W5:=HB2.out.trans (hb5.mono (by omega));have hxD:=HX.out.toD hbw (n:=w.heap.size+1+1+1+1) (by omega);have hyD:=HY.out.toD hbw (n:=w.heap.size+1+1+1+1) (by omega);have hqa:=El.alone (x:=.slice xo a.l.length xc) hA (DD.new (n:=w.heap.size+1+1+1+1) hA (by omega)) HA.out hxD;have hqb:=El.alone (x:=.slice yo b.l.length yc) hB (DD.new (n:=w.heap.size+1+1+1+1) hB (by omega)) HB.out hyD;have hown:OwnRX W5 (w.heap.size+1+1+1+1) (.slice (some ⟨w.heap.size+1+1+1+1,0,none⟩) 1 1) [⟨[a],[b],.slice (some ⟨w.heap.size+1+1,0,none⟩) 1 1,.slice (some ⟨w.heap.size+1+1+1,0,none⟩) 1 1⟩] :=
  ⟨rfl,.inr ⟨_,1,_,rfl,Nat.le_refl _,hP,Nat.le_refl _,by unfold maxLen;omega,rfl,rfl⟩⟩
 refine(sameExprs_any [⟨[a],[b],.slice (some ⟨w.heap.size+1+1,0,none⟩) 1 1,.slice (some ⟨w.heap.size+1+1+1,0,none⟩) 1 1⟩] _ W5 (w.heap.size+1+1+1+1) (DD W5 (w.heap.size+1+1+1+1)) hown (DD.dks _ _) (fun b hb=>?_) (fun q hq=>?_) ?_ (by omega)).mono ?_
 ·intro e
  simp[Value.ownBlock] at e;have:=hb.1;omega
 ·obtain rfl:q=_:=by simpa using hq
  exact⟨hqa,hqb⟩
 ·have hz0:=HZ.out
  simp only[mx,szx];omega
 rintro e w' ⟨r,rfl,hr,hb⟩;have HR:Hid (r=sameX a b):=by
  refine Hid.mk ?_;have:Sme [(⟨[a],[b],.slice (some ⟨w.heap.size+1+1,0,none⟩) 1 1,.slice (some ⟨w.heap.size+1+1+1,0,none⟩) 1 1⟩:Prr Ex)]↔a=b:=(by rw[Sme.one];simp);rw[this,<- sameX_iff] at hr;cases r <;> cases hq:sameX a b <;> simp_all
 clear hr hown hqa hqb hxD hyD hA hB hP hb5;go_wp2;go_ret;have hr':=HR.out;subst hr';exact⟨rfl,hbw.trans (hb.mono (by omega))⟩
end Go.Proofs.YtkbijjkgfojchaaGreat
