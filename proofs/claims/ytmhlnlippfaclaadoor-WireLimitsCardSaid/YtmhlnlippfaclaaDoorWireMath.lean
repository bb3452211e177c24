/- Plain mathematics: datagrams: which fields a kind has, what is right, what is put. No program is read here. -/
import Derived.Test.YtmhlnlippfaclaaDoorRecPut
import Derived.Lib.Bytealg
namespace Go.Proofs.YtmhlnlippfaclaaDoor
open Go.RowKit
set_option linter.unusedVariables false
set_option linter.unusedSimpArgs false

def kindB (k : Int) : Bool := decide (1 ≤ k) && decide (k ≤ 16)
def nodeB (n : Int) : Bool := decide (1 ≤ n) && decide (n ≤ 32)
/-- the letters of the fields that kind k has -/
def tabL : Nat → List UInt8
  | 1 => [110, 114] | 2 => [112, 114] | 3 => [110, 97, 114] | 4 => [110] | 5 => [110, 98] | 6 => [97, 102] | 7 => [97, 102] | 8 => [110]
  | 9 => [110] | 10 => [102] | 11 => [102] | 13 => [112, 114] | 14 => [114] | 15 => [102, 114] | 16 => [110, 97] | _ => []
def tabB (k : Nat) : ByteArray := ⟨(tabL k).toArray⟩
theorem tabB_list (k : Nat) : (tabB k).data.toList = tabL k := by simp [tabB]
/-- the letter of a field -/
def letL : Nat → Nat
  | 0 => 110 | 1 => 97 | 2 => 112 | 3 => 102 | 4 => 98 | 5 => 114 | _ => 0
def hasB (k j : Nat) : Bool := decide (Lib.indexByte (tabL k) (letL j).toUInt8 ≥ 0)
def mostN (k : Int) : Nat := if k = 13 ∨ k = 15 then 32 else 8
/-- a datagram's fields: its place is told by its words, by whether it is right (pr), has a -0 (pm), is 0 (pz), and by its bytes -/
structure Ms where
  k : Nat
  f : Int
  q : Nat
  n : Int
  ip : Nat
  port : Nat
  re : Nat
  im : Nat
  fl : Bool
  b : ByteArray
  a : Option Addr
  cap : Nat
  rs : List Rec
  pr : Bool
  pm : Bool
  pz : Bool
  pb : ByteArray
def Ms.newsB (m : Ms) : Bool := decide (m.rs.length ≤ mostN m.k) && m.rs.all Rec.right
def Ms.rightF (m : Ms) : Nat → Bool
  | 0 => nodeB m.n
  | 1 => !noneI m.ip m.port
  | 2 => m.pr && !m.pm
  | 4 => decide (1 ≤ m.b.size) && decide (m.b.size ≤ 900)
  | 5 => m.newsB
  | _ => true
def Ms.zeroF (m : Ms) : Nat → Bool
  | 0 => decide (m.n = 0)
  | 1 => decide (m.ip = 0) && decide (m.port = 0)
  | 2 => m.pz && !m.pm
  | 3 => !m.fl
  | 4 => decide (m.b.size = 0)
  | _ => decide (m.rs.length = 0)
def Ms.fits (m : Ms) (j : Nat) : Bool := if hasB m.k j then m.rightF j else m.zeroF j
def Ms.fitsUp (m : Ms) : Nat → Bool
  | 0 => true
  | j + 1 => m.fitsUp j && m.fits j
def Ms.right (m : Ms) : Bool := kindB m.k && (nodeB m.f && m.fitsUp 6)
def newsP : List Rec → ByteArray
  | [] => ⟨#[]⟩
  | r :: l => putR r ++ newsP l
def Ms.putF (m : Ms) : Nat → ByteArray
  | 0 => numB m.n.toNat 1
  | 1 => putB m.ip m.port
  | 2 => m.pb
  | 3 => numB (if m.fl then 1 else 0) 1
  | 4 => numB m.b.size 2 ++ m.b
  | _ => numB m.rs.length 1 ++ newsP m.rs
def Ms.head (m : Ms) : ByteArray := (numB m.k 1 ++ numB m.f.toNat 1) ++ numB m.q 4
def Ms.putUp (m : Ms) : Nat → ByteArray
  | 0 => m.head
  | j + 1 => if hasB m.k j then m.putUp j ++ m.putF j else m.putUp j
theorem fitsUp_false {m : Ms} {j : Nat} (h : m.fits j = false) (i : Nat) (hi : j < i) : m.fitsUp i = false := by
  induction i with
  | zero => omega
  | succ i ih =>
    unfold Ms.fitsUp
    by_cases e : j = i
    · subst e; rw [h]; simp
    · rw [ih (by omega)]; rfl
theorem newsP_append (a b : List Rec) : newsP (a ++ b) = newsP a ++ newsP b := by
  induction a with
  | nil => apply ba_ext; simp [newsP]
  | cons r l ih => show putR r ++ newsP (l ++ b) = _; rw [ih]; apply ba_ext; simp [newsP, List.append_assoc]
theorem newsP_size (l : List Rec) : (newsP l).size = 12 * l.length := by
  induction l with
  | nil => rfl
  | cons r l ih => rw [newsP, ByteArray.size_append, ih, putR_size, List.length_cons]; omega
theorem newsP_take (l : List Rec) (i : Nat) (h : i < l.length) : newsP (l.take (i + 1)) = newsP (l.take i) ++ putR l[i] := by
  rw [List.take_succ_eq_append_getElem h, newsP_append]
  congr 1
end Go.Proofs.YtmhlnlippfaclaaDoor
