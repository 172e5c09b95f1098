/- Texts of ours, laid together: DecDig, DecSpec. -/
import Derived.Test.YtaofdckdmffaiaaGreatDoorBd2
import Derived.WalkKit
import Derived.WalkSpells
import Derived.WalkLawsBesides
import Derived.RegionTactic
import Derived.BigRegion
import Derived.OpenShut
import Derived.Handy
import Derived.Laws.AppendOwn
import Derived.Laws.OwnMore
import Derived.Laws.IdiomStrings
import Derived.Laws.Concat
import Derived.Laws.BytesString
/- One digit, as a text. -/
namespace Go.Proofs.YtaofdckdmffaiaaGreatDoor.DecS
open Go.RowKit
open DecM

theorem hide (x : ByteArray) : ∃ r : ByteArray, Hid (x = r) := ⟨x, show x = x from rfl⟩
theorem ret_str {a b : ByteArray} (h : a = b) : Ending.returned (.string a) = .returned (.string b) := by rw [h]
theorem Tryz.infoB : (Tryz.prog.info? 5).map (fun i => (i.zero, i.size, i.bytes)) = some (some (.int .u8 0), 1, 1) := by kernel_rfl

def cellsB (l : List UInt8) : List Value := l.map (fun b => Value.int .u8 (b.toNat : Int))
theorem conv_own {w : World} {base n : Nat} {v : Value} {l : List UInt8} (h : w.ownsRow base 5 1 v n (cellsB l)) :
    (convert 93 9 v).run Tryz.prog w = .ok (.string ⟨l.toArray⟩) w := by
  obtain ⟨hl, hv⟩ := h
  have hn : n = l.length := by unfold cellsB at hl; simp at hl; omega
  subst hn
  rcases hv with ⟨rfl, h0⟩ | ⟨g, cap, cur, rfl, _, hg, hc, _, hs, ht⟩
  · have : l = [] := List.length_eq_zero_iff.1 h0
    subst this
    rw [run_convert_bytes_string w 93 9 5 none 0 0 Tryz.underlying93 Tryz.underlying5 Tryz.underlying9]
    simp [Conv.bytesToString, Sem.run_pure]; rfl
  · refine run_convert_bytes_back w 93 9 5 _ cap l Tryz.underlying93 Tryz.underlying5 Tryz.underlying9 ?_
    intro j hj
    have e : (cellsB l)[j]? = some (.int .u8 (l[j].toNat : Int)) := by unfold cellsB; simp [hj]
    rw [← ht] at e
    have e2 : cur[j]? = some (.int .u8 (l[j].toNat : Int)) := by
      rw [List.getElem?_take] at e
      split at e
      · simpa using e
      · cases e
    have hplain : (⟨g, 0, none⟩ : Addr).add j = ⟨g, j, none⟩ := by unfold Addr.add; split <;> simp_all
    rw [hplain]; simp [World.cell?, hg, e2]
/-- one digit, as a string -/
def dig (d : Nat) : ByteArray := ⟨#[UInt8.ofNat (48 + d)]⟩
theorem dig_data (d : Nat) : (dig d).data.toList = [UInt8.ofNat (48 + d)] := rfl
theorem dig_size (d : Nat) : (dig d).size = 1 := rfl
theorem conv_dig (w : World) (d : Nat) (h : d < 10) :
    (convert 93 9 (.slice (some ⟨w.heap.size, 0, none⟩) 1 1)).run Tryz.prog (w.alloc (.cells #[.int .u8 (48 + (d : Int))] 5)) = .ok (.string (dig d)) (w.alloc (.cells #[.int .u8 (48 + (d : Int))] 5)) := by
  refine run_convert_bytes_back _ 93 9 5 _ 1 [UInt8.ofNat (48 + d)] Tryz.underlying93 Tryz.underlying5 Tryz.underlying9 ?_
  intro j hj
  have : j = 0 := by simpa using hj
  subst this
  simp [Addr.add]; omega
end Go.Proofs.YtaofdckdmffaiaaGreatDoor.DecS
/- The model writes the digits of a number. -/
namespace Go.Proofs.YtaofdckdmffaiaaGreatDoor.DecS
open Go.RowKit
open DecM

end Go.Proofs.YtaofdckdmffaiaaGreatDoor.DecS
