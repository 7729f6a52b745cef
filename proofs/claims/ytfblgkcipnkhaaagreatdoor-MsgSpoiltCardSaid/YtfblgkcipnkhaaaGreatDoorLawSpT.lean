/-
  The law MsgSpoilt: its halves joined.
-/
import Derived.Test.YtfblgkcipnkhaaaGreatDoorJk
namespace Go.Proofs.YtfblgkcipnkhaaaGreatDoor.pk
open Go Go.RowKit

theorem spoilt_true (C : ConM) (m : Ms) (Ad : Option Addr) (nd cd : Nat) (Ae : Option Addr) (ne ce : Nat) (at_ : Int) (by_ : UInt8) (w : World) (hs : StdP w) (h : InM m Ad nd cd Ae ne ce w) (hd : ∀ e ∈ m.ents, e.data.length ≤ 140737488355328) :
    Calls Tryz.prog 5 #[.agg #[.int .i64 m.kind, .int .i64 m.frm, .int .i64 m.to, .int .i64 m.term, .int .i64 m.index, .int .i64 m.logTerm, .int .i64 m.commit, .int .i64 m.round, .bool m.ok, .int .i64 m.off, .slice Ad nd cd, .slice Ae ne ce], .int .i64 at_, .int .u8 (by_.toNat : Int)] w fun y w' => y = .returned (.bool true) ∧ Below w.heap.size w w' := by
  cases hl : longM m with
  | true => exact spoilt_no C m Ad nd cd Ae ne ce at_ by_ w hs h hd (Or.inl hl)
  | false =>
    cases hm : mayM m with
    | true => exact spoilt_yes C m Ad nd cd Ae ne ce at_ by_ w hs h hd hl hm
    | false => exact spoilt_no C m Ad nd cd Ae ne ce at_ by_ w hs h hd (Or.inr ⟨hl, hm⟩)

end Go.Proofs.YtfblgkcipnkhaaaGreatDoor.pk
