/- Texts of ours, laid together: FlsKeep. -/
import Derived.Test.YtaofdckdmffaiaaGreatDoorBd27
import Derived.Test.YtaofdckdmffaiaaGreatDoorBd14
import Derived.Test.YtaofdckdmffaiaaGreatDoorBd33
/- What stays of a row of texts while marks are written. -/
namespace Go.Proofs.YtaofdckdmffaiaaGreatDoor.FlsL
open Go.RowKit
open PrtW NameW ItmW ItmM FrmM FlsM FldK
open StrW hiding hid
open FlsS (own_below)

theorem strs_grown {w w' : World} {a : Option Addr} {ss : List (List UInt8)} {row : Option Nat} (h : Strs w a ss) (hg : w.grownBy w' row) (hne : ∀ b o, a = some ⟨b, o, none⟩ → 0 < ss.length → some b ≠ row) : Strs w' a ss := by
  refine ⟨h.1, fun hp => ?_⟩
  obtain ⟨b, o, ha, hb, hc⟩ := h.2 hp
  refine ⟨b, o, ha, Nat.lt_of_lt_of_le hb hg.size, fun i hi => ?_⟩
  rw [World.cell?_of_block (w := w) (a := ⟨b, o + i, none⟩) (hg.block b hb (hne b o ha hp))]
  exact hc i hi
theorem strs_within {w w' : World} {a : Option Addr} {ss : List (List UInt8)} {g e : Nat} (h : Strs w a ss) (hW : WithinI w w' g e) (hne : ∀ b o, a = some ⟨b, o, none⟩ → 0 < ss.length → b < g) : Strs w' a ss := by
  refine ⟨h.1, fun hp => ?_⟩
  obtain ⟨b, o, ha, hb, hc⟩ := h.2 hp
  refine ⟨b, o, ha, Nat.lt_of_lt_of_le hb hW.2.2.2.1, fun i hi => ?_⟩
  rw [World.cell?_of_block (w := w) (a := ⟨b, o + i, none⟩) (hW.2.2.2.2 b hb (.inl (hne b o ha hp)))]
  exact hc i hi
theorem own_within {w w' : World} {base g e : Nat} {v : Value} {n : Nat} {xs : List Value} (h : w.ownsRow base 9 1 v n xs) (hW : WithinI w w' g e) (hb : e ≤ base) : w'.ownsRow base 9 1 v n xs := by
  obtain ⟨h1, h2⟩ := h
  refine ⟨h1, ?_⟩
  rcases h2 with h2 | ⟨k, cap, cur, hv, hbk, hg, r⟩
  · exact .inl h2
  · exact .inr ⟨k, cap, cur, hv, hbk, by rw [hW.2.2.2.2 k (ItmW.blk_lt hg) (.inr (by omega))]; exact hg, r⟩

end Go.Proofs.YtaofdckdmffaiaaGreatDoor.FlsL
