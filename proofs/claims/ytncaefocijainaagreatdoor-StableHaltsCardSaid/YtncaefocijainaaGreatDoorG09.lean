import Derived.Test.YtncaefocijainaaGreatDoorG08
import Derived.Test.YtncaefocijainaaGreatDoorG01
namespace Go.Proofs.YtncaefocijainaaGreatDoor.pk
open Go Go.RowKit
set_option maxRecDepth 100000
section
structure ConD where
 DK : World → (Nat → Prop) → Nat → Dk → Prop
 R : Nat → Prop
 wR : World
 pin : ∀ {w : World} {S : Nat → Prop} {p : Nat} {d : Dk}, DK w S p d → ∀ k, R k → S k ∧ w.heap[k]? = wR.heap[k]?
 frame : ∀ {w w' : World} {S : Nat → Prop} {p : Nat} {d : Dk}, DK w S p d → (∀ k, S k → w'.heap[k]? = w.heap[k]?) → DK w' S p d
 foot : ∀ {w : World} {S : Nat → Prop} {p : Nat} {d : Dk}, DK w S p d → ∀ k, S k → k < w.heap.size
 ok : ∀ {w : World} {S : Nat → Prop} {p : Nat} {d : Dk}, DK w S p d → d.Ok ∧ 1 ≤ d.B.length ∧ d.B.length ≤ 4194304
 cNewNo : ∀ (n : Int) (w : World), inI n → n < 1 ∨ 4194304 < n → Calls Tryz.prog 34 #[.int .i64 n] w fun x w' => x = .returned (.tuple #[.pointer none, er 1]) ∧ Below w.heap.size w w'
 cRead : ∀ (w : World) (S : Nat → Prop) (p : Nat) (d : Dk) (at_ n : Int), DK w S p d → inI at_ → inI n →
   Calls Tryz.prog 49 #[.pointer (some ⟨p, 0, none⟩), .int .i64 at_, .int .i64 n] w fun x w' => ∃ v, x = .returned (.tuple #[v, er (badE d at_ n)]) ∧ SlT w' (fun k => w.heap.size ≤ k ∧ k < w'.heap.size) v (readB d at_ n) ∧ Below w.heap.size w w'
 cWrite : ∀ (w : World) (S : Nat → Prop) (p : Nat) (d : Dk) (at_ : Int) (A : Option Addr) (n c : Nat) (x : List UInt8), DK w S p d → inI at_ → d.L.length < 100000 → SlT w (Av w S) (.slice A n c) x →
   Calls Tryz.prog 92 #[.pointer (some ⟨p, 0, none⟩), .int .i64 at_, .slice A n c] w fun r w' => ∃ S', r = .returned (er (putE d at_ x)) ∧ DK w' S' p (putD d at_ x) ∧ Turn S S' w w'
 cSync : ∀ (w : World) (S : Nat → Prop) (p : Nat) (d : Dk), DK w S p d → Calls Tryz.prog 93 #[.pointer (some ⟨p, 0, none⟩)] w fun r w' => ∃ S', r = .returned (er (syncE d)) ∧ DK w' S' p (syncD d) ∧ Turn S S' w w'
 cStart : ∀ (w : World) (S : Nat → Prop) (p : Nat) (d : Dk) (A : Option Addr) (n c : Nat) (keep : List Int), DK w S p d → d.L.length < 100000 → IntsT w (Av w S) (.slice A n c) keep → (∀ z ∈ keep, inI z) →
   Calls Tryz.prog 22 #[.pointer (some ⟨p, 0, none⟩), .slice A n c] w fun r w' => ∃ S', r = .returned (.tuple #[]) ∧ DK w' S' p (startD d keep) ∧ Turn S S' w w'
structure ConB (Q : ConD → Prop) (C : ConD) : Prop where
 cNew : ∀ (n : Nat) (w : World), 1 ≤ n → n ≤ 4194304 →
   Calls Tryz.prog 34 #[.int .i64 (n : Int)] w fun x w' => ∃ p S, x = .returned (.tuple #[.pointer (some ⟨p, 0, none⟩), .nilIface]) ∧ C.DK w' S p (newD n) ∧ (∀ k, S k → w.heap.size ≤ k) ∧ Below w.heap.size w w'
end
end Go.Proofs.YtncaefocijainaaGreatDoor.pk
