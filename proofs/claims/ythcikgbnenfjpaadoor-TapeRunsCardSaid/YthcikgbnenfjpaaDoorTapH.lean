/-
  The tape's own Open: walked.
-/
import Derived.Test.YthcikgbnenfjpaaDoorTapG
namespace Go.Proofs.YthcikgbnenfjpaaDoor.pk
open Go Go.RowKit
set_option maxRecDepth 100000

section
variable {C : ConD} {w w' : World} {S S' : Nat → Prop} {q p : Nat} {d d' : Dk} {t : Tm}

/-- What Open answers: an error's number. -/
def openE (d : Dk) (at_ len : Int) : Nat := if len < 5 then 1 else if badE d at_ len = 0 then (if (readT (readB d at_ len)).isSome = true then 0 else 14) else badE d at_ len

theorem readB_len {d : Dk} {at_ len : Int} (hok : d.Ok) (h : badE d at_ len = 0) : ((readB d at_ len).length : Int) = len := by
  obtain ⟨h1, h2, h3, h4, -⟩ := badE_in h
  unfold readB
  rw [if_pos h, List.length_take, List.length_drop, hok.now]
  omega

set_option maxHeartbeats 2000000 in
theorem Open_no (h : C.DK w S p d) (at_ len : Int) (ha : inI at_) (hl : inI len) (he : openE d at_ len ≠ 0) :
    Calls Tryd.prog 11 #[.pointer (some ⟨p, 0, none⟩), .agg #[.int .i64 at_, .int .i64 len]] w fun y w' => y = .returned (.tuple #[.pointer none, .slice none 0 0, er (openE d at_ len)]) ∧ Below w.heap.size w w' := by
  have hba := (Below.refl w.heap.size w).alloc (Nat.le_refl _) (.cells #[.int .i64 at_, .int .i64 len] 36)
  by_cases h5 : len < 5
  · rw [show openE d at_ len = 1 from if_pos h5]
    have HB := Lib.hid hba
    clear hba he ha hl
    go_enter Tryd.func11, Tryd.ntmps11
    go_wp2_with fail
    go_ret3
    exact ⟨rfl, HB.out⟩
  · have hdk := C.frame h fun k hk => hba.block k (C.foot h k hk)
    have cr := C.cRead _ S p d at_ len hdk ha hl
    have hok := (C.ok h).1
    have hB := (C.ok h).2.2
    by_cases hb : badE d at_ len = 0
    · have hr : readT (readB d at_ len) = none := by
        cases hx : readT (readB d at_ len) with
        | none => rfl
        | some x => exact absurd (by unfold openE; rw [if_neg h5, if_pos hb, hx]; rfl) he
      have e1 : openE d at_ len = 14 := by unfold openE; rw [if_neg h5, if_pos hb, hr]; rfl
      rw [e1]
      have hrl := readB_len hok hb
      have hin := badE_in hb
      rw [hb, er_zero] at cr
      have CR := Lib.hid cr
      have HR := Lib.hid hr
      have HRL := Lib.hid (show (readB d at_ len).length ≤ 4194304 by omega)
      have HB := Lib.hid hba
      clear hba he ha hl cr hok hB hb hr e1 hrl hin hdk h
      go_enter Tryd.func11, Tryd.ntmps11
      go_wp2_with (first
        | (go_at_call 21; go_must (refine CR.out.mono ?_; rintro y w2 ⟨v2, rfl, h2, hb2⟩; obtain ⟨A2, n2, c2, rfl⟩ := h2.form; have T2 := Lib.hid (And.intro h2 (HB.out.trans (hb2.mono HB.out.size))); clear h2 hb2))
        | (go_at_call 30; go_must (refine (parse_any _ A2 n2 c2 _ w2 T2.out.1 (by have := T2.out.1.sl.len.1; have := HRL.out; omega)).mono ?_; rintro y w3 ⟨hb3, hm⟩; rw [HR.out] at hm; obtain rfl : y = _ := hm; have B3 := Lib.hid (T2.out.2.trans (hb3.mono T2.out.2.size)); clear hb3; rw [er_ne (by decide)])))
      go_ret3
      exact ⟨rfl, B3.out⟩
    · have e1 : openE d at_ len = badE d at_ len := by unfold openE; rw [if_neg h5, if_neg hb]
      have hE := er_ne hb
      rw [e1]
      rw [hE] at cr ⊢
      have CR := Lib.hid cr
      have HB := Lib.hid hba
      clear hba he ha hl cr hok hB hb e1 hdk h hE
      go_enter Tryd.func11, Tryd.ntmps11
      go_wp2_with (go_at_call 21; go_must (refine CR.out.mono ?_; rintro y w2 ⟨v2, rfl, h2, hb2⟩; obtain ⟨A2, n2, c2, rfl⟩ := h2.form; have T2 := Lib.hid (HB.out.trans (hb2.mono HB.out.size)); clear h2 hb2))
      go_ret3
      exact ⟨rfl, T2.out⟩

set_option maxHeartbeats 2000000 in
theorem Open_yes (h : C.DK w S p d) (at_ len : Nat) (ha : inI at_) (hl : inI len) (h5 : 5 ≤ len) (hb : badE d at_ len = 0) (l : List (List UInt8)) (k : Nat) (hr : readT (readB d at_ len) = some (l, k)) :
    Calls Tryd.prog 11 #[.pointer (some ⟨p, 0, none⟩), .agg #[.int .i64 (at_ : Int), .int .i64 (len : Int)]] w fun y w' => ∃ q v, y = .returned (.tuple #[.pointer (some ⟨q, 0, none⟩), v, .nilIface]) ∧ TBox w' q p ⟨at_, len, k, l.length, 0⟩ ∧
      OwnL w' w.heap.size (fun k => w.heap.size ≤ k) v l ∧ w.heap.size ≤ q ∧ v.ownBlock ≠ some q ∧ Below w.heap.size w w' := by
  have hba := (Below.refl w.heap.size w).alloc (Nat.le_refl _) (.cells #[.int .i64 (at_ : Int), .int .i64 (len : Int)] 36)
  have hdk := C.frame h fun k hk => hba.block k (C.foot h k hk)
  have cr := C.cRead _ S p d at_ len hdk ha hl
  have hok := (C.ok h).1
  have hB := (C.ok h).2.2
  have hrl := readB_len hok hb
  have hin := badE_in hb
  rw [hb, er_zero] at cr
  have CR := Lib.hid cr
  have HR := Lib.hid hr
  have HRL := Lib.hid (show (readB d at_ len).length ≤ 4194304 by omega)
  have HB := Lib.hid hba
  have i5 : ¬ (len : Int) < 5 := by omega
  have hnew := heap_alloc_new w (.cells #[.int .i64 (at_ : Int), .int .i64 (len : Int)] 36)
  have HN := Lib.hid hnew
  clear hba ha hl cr hok hB hb hr hrl hin hdk h h5 hnew
  go_enter Tryd.func11, Tryd.ntmps11
  go_upto_region 9 with (first
    | (go_at_call 21; go_must (refine CR.out.mono ?_; rintro y w2 ⟨v2, rfl, h2, hb2⟩; obtain ⟨A2, n2, c2, rfl⟩ := h2.form; have T2 := Lib.hid (And.intro h2 (And.intro (HB.out.trans (hb2.mono HB.out.size)) hb2)); clear h2 hb2))
    | (go_at_call 30; go_must (refine (parse_any _ A2 n2 c2 _ w2 T2.out.1 (by have := T2.out.1.sl.len.1; have := HRL.out; omega)).mono ?_; rintro y w3 ⟨hb3, hm⟩; rw [HR.out] at hm; obtain ⟨v3, rfl, ho3⟩ := hm; obtain ⟨A3, c3, rfl, -, -⟩ := ho3.form; have T3 := Lib.hid (And.intro ho3 (And.intro (T2.out.2.1.trans (hb3.mono T2.out.2.1.size)) (And.intro hb3 ((hb3.mono (Nat.le_refl _)).block w.heap.size (Nat.lt_of_lt_of_le (by rw [World.size_alloc]; omega) T2.out.2.2.size))))); clear hb3 ho3)))
  have hbx : w3.heap[w.heap.size]? = some (.cells #[.int .i64 (at_ : Int), .int .i64 (len : Int)] 36 (0, 0)) :=
    T3.out.2.2.2.trans ((T2.out.2.2.block w.heap.size (by rw [World.size_alloc]; omega)).trans HN.out)
  have x0 : w3.cell? ⟨w.heap.size, 0, none⟩ = some (.int .i64 (at_ : Int)) := by rw [cell_of_row w3 _ _ _ _ (0, 0) hbx]; rfl
  have x1 : w3.cell? ⟨w.heap.size, 1, none⟩ = some (.int .i64 (len : Int)) := by rw [cell_of_row w3 _ _ _ _ (0, 0) hbx]; rfl
  clear hbx
  go_wp2_with fail
  go_ret3
  have hB := T3.out.2.1
  refine ⟨_, _, rfl, heap_alloc_new w3 _, (T3.out.1.mono T2.out.2.1.size (fun k hk => Nat.le_trans T2.out.2.1.size hk)).more ((Below.refl _ _).alloc (Nat.le_refl _) _), hB.size, fun e => ?_, hB.alloc hB.size _⟩
  have := (T3.out.1.lt _ e).2
  omega
end

end Go.Proofs.YthcikgbnenfjpaaDoor.pk
