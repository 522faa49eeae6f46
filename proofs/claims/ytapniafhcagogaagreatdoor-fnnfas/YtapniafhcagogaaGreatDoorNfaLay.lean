/- The nodes of an expression, as they are laid. -/
import Derived.Test.YtapniafhcagogaaGreatDoorNodeLeaf
import Derived.Test.YtapniafhcagogaaGreatDoorRexTree
namespace Go.Proofs.YtapniafhcagogaaGreatDoor

abbrev noS : ByteArray := ByteArray.empty
def split (a b : Nat) : Nd := ⟨4, noS, a, b⟩

mutual
/-- How many nodes a part has. -/
def Tr.nsz : Tr → Nat
  | .node k _ l => if k = 9 ∨ k = 4 then nszL l else if k = 5 then nszL l + 2 * (l.length - 1) else if k = 6 then nszL l + 2 else nszL l + 1
def nszL : List Tr → Nat
  | [] => 0
  | t :: r => t.nsz + nszL r
end

theorem nsz_eq (t : Tr) : t.nsz = if t.k = 9 ∨ t.k = 4 then nszL t.l else if t.k = 5 then nszL t.l + 2 * (t.l.length - 1) else if t.k = 6 then nszL t.l + 2 else nszL t.l + 1 := by
  cases t; rw [Tr.nsz]; rfl

mutual
/-- The nodes of a part that is laid at p. -/
def Tr.lay : Tr → Nat → List Nd
  | .node k s l, p =>
    if k = 1 then [⟨1, s, (p + 1 : Nat), 0⟩]
    else if k = 2 then [⟨2, noS, (p + 1 : Nat), 0⟩]
    else if k = 3 then [⟨3, s, (p + 1 : Nat), 0⟩]
    else if k = 4 then layL l p
    else if k = 5 then layA l p (p + (nszL l + 2 * (l.length - 1)))
    else if k = 6 then split (p + 1) (p + (nszL l + 2)) :: (layL l (p + 1) ++ [split p p])
    else if k = 7 then layL l p ++ [split p (p + (nszL l + 1))]
    else if k = 8 then split (p + 1) (p + (nszL l + 1)) :: layL l (p + 1)
    else if k = 10 then [⟨5, noS, (p + 1 : Nat), 0⟩]
    else if k = 11 then [⟨6, noS, (p + 1 : Nat), 0⟩]
    else []
/-- One behind the other. -/
def layL : List Tr → Nat → List Nd
  | [], _ => []
  | t :: r, p => t.lay p ++ layL r (p + t.nsz)
/-- One or the other; q is behind all. -/
def layA : List Tr → Nat → Nat → List Nd
  | [], _, _ => []
  | t :: r, p, q => if r.isEmpty then t.lay p else split (p + 1) (p + 2 + t.nsz) :: (t.lay (p + 1) ++ split q q :: layA r (p + 2 + t.nsz) q)
end

theorem lay_eq (t : Tr) (p : Nat) : t.lay p =
    if t.k = 1 then [⟨1, t.s, (p + 1 : Nat), 0⟩]
    else if t.k = 2 then [⟨2, noS, (p + 1 : Nat), 0⟩]
    else if t.k = 3 then [⟨3, t.s, (p + 1 : Nat), 0⟩]
    else if t.k = 4 then layL t.l p
    else if t.k = 5 then layA t.l p (p + (nszL t.l + 2 * (t.l.length - 1)))
    else if t.k = 6 then split (p + 1) (p + (nszL t.l + 2)) :: (layL t.l (p + 1) ++ [split p p])
    else if t.k = 7 then layL t.l p ++ [split p (p + (nszL t.l + 1))]
    else if t.k = 8 then split (p + 1) (p + (nszL t.l + 1)) :: layL t.l (p + 1)
    else if t.k = 10 then [⟨5, noS, (p + 1 : Nat), 0⟩]
    else if t.k = 11 then [⟨6, noS, (p + 1 : Nat), 0⟩]
    else [] := by
  cases t; rw [Tr.lay]; rfl
end Go.Proofs.YtapniafhcagogaaGreatDoor
