/- Texts of ours, laid together: ErdMath. -/
import Derived.Test.YtecopedjjfimoaaGreatDoorBd23
import Derived.Test.YtecopedjjfimoaaGreatDoorBd9
/- How the model reads an expression: its reader as a plain function. -/
namespace Go.Proofs.YtecopedjjfimoaaGreatDoor.ErdM
open PrtW PrtM PrtI TexM
open RdM (numM)

/-- a byte of a word -/
def wordC (c : UInt8) : Bool := decide ((97 ≤ c.toNat ∧ c.toNat ≤ 122) ∨ (48 ≤ c.toNat ∧ c.toNat ≤ 57) ∨ c.toNat = 95 ∨ c.toNat = 45)
/-- where the reader stands: the place, whether it has failed -/
structure St where
  pos : Nat
  bad : Bool
/-- does this stand there? -/
def isB (T : List UInt8) (s : St) (what : List UInt8) : Bool := !s.bad && decide (s.pos + what.length ≤ T.length) && decide ((T.drop s.pos).take what.length = what)
def overS (s : St) (what : List UInt8) : St := ⟨s.pos + what.length, s.bad⟩
def isS (T : List UInt8) (s : St) (what : List UInt8) : St := if isB T s what = true then overS s what else s
def mustS (T : List UInt8) (s : St) (what : List UInt8) : St := if isB T s what = true then overS s what else ⟨s.pos, true⟩
def wordL (T : List UInt8) (s : St) : List UInt8 := (T.drop s.pos).takeWhile wordC
def wordS (T : List UInt8) (s : St) : St := ⟨s.pos + (wordL T s).length, s.bad⟩
/-- a sign, with a blank on either side -/
def blankL (k : Nat) : List UInt8 := 32 :: (signL k ++ [32])
/-- the sign that stands there, looked for from k down to 3 -/
def signFrom (T : List UInt8) (s : St) : Nat → Nat × St
  | 0 => (0, ⟨s.pos, true⟩)
  | k + 1 => if k + 1 < 3 then (0, ⟨s.pos, true⟩) else if isB T s (blankL (k + 1)) = true then (k + 1, overS s (blankL (k + 1))) else signFrom T s k
def hasW : List UInt8 := [104, 97, 115, 40]
def knownW : List UInt8 := [107, 110, 111, 119, 110, 40]
def nm (l : List UInt8) : ByteArray := ⟨l.toArray⟩
/-- what is put to the list, n parts being in it, and where the reader stands behind it -/
def one (T : List UInt8) : Nat → Nat → St → List Pt × St
  | 0, _, s => ([], ⟨s.pos, true⟩)
  | d + 1, n, s =>
    if 20 < n ∨ s.bad = true then ([], ⟨s.pos, true⟩)
    else if isB T s [33] = true then
      let r := one T d (n + 1) (overS s [33])
      ((11, 0, ByteArray.empty) :: r.1, r.2)
    else if isB T s hasW = true then
      let s1 := overS s hasW
      let s2 := mustS T (wordS T s1) [44]
      ([(12, numM (wordL T s2), nm (wordL T s1))], mustS T (wordS T s2) [41])
    else if isB T s knownW = true then
      let s1 := overS s knownW
      ([(13, 0, nm (wordL T s1))], mustS T (wordS T s1) [41])
    else if isB T s [40] = true then
      let r1 := one T d n (overS s [40])
      let g := signFrom T r1.2 10
      let r2 := one T d (n + r1.1.length) g.2
      (((g.1 : Int), 0, ByteArray.empty) :: (r1.1 ++ r2.1), mustS T r2.2 [41])
    else
      let w := wordL T s
      ([if NameW.nameB (nm w) = true then (2, 0, nm w) else (1, numM w, ByteArray.empty)], wordS T s)
end Go.Proofs.YtecopedjjfimoaaGreatDoor.ErdM
