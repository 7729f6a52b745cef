/-
  The document's own disk in memory; whether bytes lie within.
-/
import Derived.Test.YtlhagbcomnjnoaaDoorAppR
import Derived.Test.YtlhagbcomnjnoaaDoorPureD
import Derived.Test.YtlhagbcomnjnoaaDoorLit
namespace Go.Proofs.YtlhagbcomnjnoaaDoor.pk
open Go Go.RowKit
set_option maxRecDepth 100000

/-- A slice of writes. -/
def WrsT (w : World) (T : Nat → Prop) (v : Value) (L : List (Nat × List UInt8)) : Prop :=
  ∃ cs, RowT w T 2 v L.length cs ∧ (∀ u ∈ cs, u.oneCell' = true) ∧ ∀ j (h : j < L.length), cs[j * 2]? = some (.int .i64 (L[j].1 : Int)) ∧ ∃ u, cs[j * 2 + 1]? = some u ∧ SlT w T u L[j].2
theorem WrsT.turn {S S' : Nat → Prop} {w w' : World} {v : Value} {L : List (Nat × List UInt8)} (h : WrsT w (Av w S) v L) (ht : Turn S S' w w') : WrsT w' (Av w' S') v L := by
  obtain ⟨cs, h1, h1c, h2⟩ := h
  refine ⟨cs, h1.turn ht, h1c, fun j hj => ?_⟩
  obtain ⟨a, u, hu, hs⟩ := h2 j hj
  exact ⟨a, u, hu, hs.turn ht⟩
theorem WrsT.nil_ (w : World) (T : Nat → Prop) : WrsT w T (.slice none 0 0) [] := ⟨[], RowT.nil_ w T 2, by simp, fun j hj => by simp at hj⟩
theorem WrsT.form {w : World} {T : Nat → Prop} {v : Value} {L : List (Nat × List UInt8)} (h : WrsT w T v L) : ∃ A c, v = .slice A L.length c ∧ L.length ≤ c ∧ c ≤ 9223372036854775807 := by
  obtain ⟨cs, h, _⟩ := h
  exact h.form
theorem WrsT.at_ {w : World} {T : Nat → Prop} {A : Option Addr} {m c : Nat} {L : List (Nat × List UInt8)} (h : WrsT w T (.slice A m c) L) (i : Nat) (hi : i < L.length) :
    ∃ b off Ad cd, A = some ⟨b, off, none⟩ ∧ T b ∧ w.cell? ⟨b, off + i * 2, none⟩ = some (.int .i64 (L[i].1 : Int)) ∧ w.cell? ⟨b, off + i * 2 + 1, none⟩ = some (.slice Ad L[i].2.length cd) ∧ SlT w T (.slice Ad L[i].2.length cd) L[i].2 := by
  obtain ⟨cs, hr, _, he⟩ := h
  obtain ⟨-, -, -, b, off, rfl, hb, hc⟩ := hr.at_ (by omega)
  obtain ⟨h0, u, hu, hs⟩ := he i hi
  have hs' := hs
  obtain ⟨Ad, cd, rfl, _⟩ := hs
  exact ⟨b, off, Ad, cd, rfl, hb, hc _ _ h0, hc _ _ hu, hs'⟩

/-- What an armed disk's number may be. -/
def inJ (n : Int) : Prop := -1 ≤ n ∧ n ≤ 9223372036854775807

/-- The document's disk, as a value: its parts are read in blocks of T. -/
structure RD (w : World) (T : Nat → Prop) (vB vL : Value) (d : Dk) : Prop where
  b : SlT w T vB d.B
  l : WrsT w T vL d.L
  ok : d.Ok
  one : 1 ≤ d.B.length
  big : d.B.length ≤ 4194304
  few : d.L.length < 100000
  arm : inJ d.armed
theorem RD.turn {S S' : Nat → Prop} {w w' : World} {vB vL : Value} {d : Dk} (h : RD w (Av w S) vB vL d) (ht : Turn S S' w w') : RD w' (Av w' S') vB vL d :=
  ⟨h.b.turn ht, h.l.turn ht, h.ok, h.one, h.big, h.few, h.arm⟩
/-- As a value. -/
def rdv (vB vL : Value) (d : Dk) : Value := .agg #[vB, vL, .int .i64 d.armed, .bool d.off]

set_option maxHeartbeats 1000000 in
theorem RefBad_any (vB vL : Value) (d : Dk) (at_ n : Int) (w : World) (T : Nat → Prop) (h : RD w T vB vL d) (ha : at_ ≤ 9223372036854775807) (hn : -9223372036854775808 ≤ n) :
    Calls Tryd.prog 33 #[rdv vB vL d, .int .i64 at_, .int .i64 n] w fun x w' => x = .returned (.int .i64 (badE d at_ n : Int)) ∧ Below w.heap.size w w' := by
  obtain ⟨A, cB, rfl, hl1, hl2, _⟩ := h.b
  have hbig := h.big
  obtain ⟨nB, hnB⟩ : ∃ nB, nB = d.B.length := ⟨_, rfl⟩
  have HE : Hid (badE d at_ n = if 0 ≤ at_ ∧ 0 ≤ n ∧ at_ ≤ nB ∧ n ≤ nB - at_ then (if d.off = true then 13 else 0) else 1) := Lib.hid (by rw [hnB]; rfl)
  rw [← hnB] at hbig ⊢
  unfold rdv
  obtain ⟨o, ho⟩ : ∃ o, o = d.off := ⟨_, rfl⟩
  rw [← ho] at HE ⊢
  obtain ⟨r, hr⟩ : ∃ r, r = d.armed := ⟨_, rfl⟩
  rw [← hr]
  obtain ⟨e, he⟩ : ∃ e, e = badE d at_ n := ⟨_, rfl⟩
  rw [← he] at HE ⊢
  have hbI : (nB : Int) ≤ 4194304 := by omega
  clear h hl1 hl2 hnB ho hr he hbig
  by_cases h1 : at_ < 0
  · have HV : Hid (e = 1) := Lib.hid (by rw [HE.out, if_neg (by omega)])
    clear HE
    go_enter Tryd.func33, Tryd.ntmps33
    go_wp2
    go_ret
    exact ⟨by rw [HV.out]; rfl, (Below.refl _ _).alloc (Nat.le_refl _) _⟩
  · by_cases h2 : n < 0
    · have HV : Hid (e = 1) := Lib.hid (by rw [HE.out, if_neg (by omega)])
      clear HE
      go_enter Tryd.func33, Tryd.ntmps33
      go_wp2
      go_ret
      exact ⟨by rw [HV.out]; rfl, (Below.refl _ _).alloc (Nat.le_refl _) _⟩
    · by_cases h3 : (nB : Int) < at_
      · have HV : Hid (e = 1) := Lib.hid (by rw [HE.out, if_neg (by omega)])
        clear HE
        go_enter Tryd.func33, Tryd.ntmps33
        go_wp2
        go_ret
        exact ⟨by rw [HV.out]; rfl, (Below.refl _ _).alloc (Nat.le_refl _) _⟩
      · have h10 : 0 ≤ at_ := by omega
        have h11 : at_ ≤ (nB : Int) := by omega
        have hsub : IntKind.i64.wrap ((nB : Int) - at_) = (nB : Int) - at_ := IntWalk.i64_in _ (by omega)
        by_cases h4 : (nB : Int) - at_ < n
        · have HV : Hid (e = 1) := Lib.hid (by rw [HE.out, if_neg (by omega)])
          clear HE
          go_enter Tryd.func33, Tryd.ntmps33
          go_wp2
          go_ret
          exact ⟨by rw [HV.out]; rfl, (Below.refl _ _).alloc (Nat.le_refl _) _⟩
        · cases o
          · have HV : Hid (e = 0) := Lib.hid (by rw [HE.out, if_pos (by omega)]; rfl)
            clear HE
            go_enter Tryd.func33, Tryd.ntmps33
            go_wp2
            go_ret
            exact ⟨by rw [HV.out]; rfl, (Below.refl _ _).alloc (Nat.le_refl _) _⟩
          · have HV : Hid (e = 13) := Lib.hid (by rw [HE.out, if_pos (by omega)]; rfl)
            clear HE
            go_enter Tryd.func33, Tryd.ntmps33
            go_wp2
            go_ret
            exact ⟨by rw [HV.out]; rfl, (Below.refl _ _).alloc (Nat.le_refl _) _⟩

end Go.Proofs.YtlhagbcomnjnoaaDoor.pk
