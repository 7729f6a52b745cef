/-
  The law ConfReached: walked.
-/
import Derived.Test.YtgnonfnipifbiaaLawT
import Derived.Test.YtgnonfnipifbiaaTailQ
namespace Go.Proofs.Ytgnonfnipifbiaa.pk
open Go Go.RowKit
set_option maxRecDepth 100000

set_option maxHeartbeats 16000000 in
theorem reached_true (C : ConC) (A : Option Addr) (m c : Nat) (zs : List Int) (A' : Option Addr) (m' c' : Nat) (l : List (Int × Int)) (w : World) (h : Ints w (.slice A m c) zs) (h' : Marks w (.slice A' m' c') l) :
    Calls Try.prog 5 #[.slice A m c, .slice A' m' c'] w fun y w' => y = .returned (.bool true) ∧ Below w.heap.size w w' := by
  have HH := Lib.hid (And.intro h h')
  have HB := Lib.hid (Below.refl w.heap.size w)
  have HM := Lib.hid h'.at_
  clear h h'
  by_cases hbig : 300 < m ∨ 100 < m'
  · have hg : (300 < (m : Int)) ∨ (¬ 300 < (m : Int) ∧ 100 < (m' : Int)) := by omega
    clear hbig
    rcases hg with hg | ⟨hg1, hg2⟩
    all_goals
      go_enter Try.func5, Try.ntmps5
      go_wp2_with (go_at_call 10; go_must (refine (sure_any C _).mono ?_; rintro y w1 ⟨rfl, hb1⟩; have HB := Lib.hid (HB.out.trans (hb1.mono HB.out.size)); clear hb1))
      go_ret
      exact ⟨rfl, HB.out⟩
  · have i1 : ¬ 300 < (m : Int) := by omega
    have i2 : ¬ 100 < (m' : Int) := by omega
    have HN := Lib.hid (show m ≤ 300 ∧ m' ≤ 100 by omega)
    clear hbig
    cases hmay : mayC zs with
    | false =>
      have CC := Lib.hid (check_no C hmay)
      clear hmay
      go_enter Try.func5, Try.ntmps5
      go_wp2_with (first
        | (go_at_call 10; go_must (refine (sure_any C _).mono ?_; rintro y w1 ⟨rfl, hb1⟩; have HB := Lib.hid (HB.out.trans (hb1.mono HB.out.size)); clear hb1))
        | (go_at_call 12; go_must (refine (own_any A m c zs _ (HH.out.1.below HB.out) (by have := HN.out; omega)).mono ?_; rintro y w1 ⟨A1, c1, rfl, hi1, hb1⟩; have HB := Lib.hid (HB.out.trans (hb1.mono HB.out.size)); have I1 := Lib.hid hi1; clear hi1 hb1))
        | (go_at_call 22; go_must (refine (CC.out _ _ _ _ I1.out HN.out.1).mono ?_; rintro y w1 ⟨⟨t, v, rfl⟩, hb1⟩; have HB := Lib.hid (HB.out.trans (hb1.mono HB.out.size)); clear hb1)))
      go_ret
      exact ⟨rfl, HB.out⟩
    | true =>
      have CC := Lib.hid (check_yes C hmay)
      obtain ⟨g, hg⟩ : ∃ q, q = agreedC zs l := ⟨_, rfl⟩
      have CA := Lib.hid fun A m c A' m' c' (W : World) h h' h1 h2 => C.cAgreed A m c zs A' m' c' l W h h' h1 h2 g hg
      have hg0 : ¬ g < 0 := by have := agreed_low zs l; omega
      have HG := Lib.hid hg
      clear hmay hg
      go_enter Try.func5, Try.ntmps5
      go_wp2_with (first
        | (go_at_call 12; go_must (refine (own_any A m c zs _ (HH.out.1.below HB.out) (by have := HN.out; omega)).mono ?_; rintro y w1 ⟨A1, c1, rfl, hi1, hb1⟩; have HB := Lib.hid (HB.out.trans (hb1.mono HB.out.size)); have I1 := Lib.hid hi1; clear hi1 hb1))
        | (go_at_call 17; go_must (refine (marks_any A' m' c' l _ (HH.out.2.below HB.out) (by have := HN.out; omega)).mono ?_; rintro y w1 ⟨A2, c2, rfl, hi1, hb1⟩; have HB := Lib.hid (HB.out.trans (hb1.mono HB.out.size)); have I1 := Lib.hid (I1.out.below hb1); have I2 := Lib.hid hi1; clear hi1 hb1))
        | (go_at_call 22; go_must (refine (CC.out _ _ _ _ I1.out HN.out.1).mono ?_; rintro y w1 ⟨rfl, hb1⟩; have HB := Lib.hid (HB.out.trans (hb1.mono HB.out.size)); clear hb1))
        | (go_at_call 16; go_must (refine (CA.out _ _ _ _ _ _ _ I1.out I2.out HN.out.1 (by have := HN.out; omega)).mono ?_; rintro y w1 ⟨rfl, hb1⟩; have HB := Lib.hid (HB.out.trans (hb1.mono HB.out.size)); clear hb1)))
      have HBS := HB
      clear HB I1 I2
      go_loopw [6] (fun ii wr => ∃ (i : Nat), i ≤ m' ∧ ii = .int .i64 (i : Int) ∧ Below w.heap.size w wr) (fun ii _ => m' - (intOf ii).toNat)
      case atStart => exact ⟨0, Nat.zero_le _, rfl, HBS.out⟩
      case round =>
        obtain ⟨i, hi, rfl, hbw⟩ := hrel
        have HB := Lib.hid hbw
        clear hbw
        by_cases hlt : i < m'
        · have ii : (i : Int) < (m' : Int) := by omega
          have ii0 : (0 : Int) ≤ (i : Int) := by omega
          obtain ⟨b, off, rfl, hb, hc⟩ := HM.out.2.2.2 (by omega)
          obtain ⟨q1, q2⟩ := hc i hlt
          obtain ⟨n, hn⟩ : ∃ n, n = (l.getD i (0, 0)).2 := ⟨_, rfl⟩
          rw [← hn] at q2
          have HCL := Lib.hid (And.intro hb (And.intro hc (And.intro q2 hn)))
          clear hb hc hn q1 q2
          go_wp2_with fail
          go_loopw [7, 8] (fun v jj wr => ∃ (j : Nat), j ≤ m' ∧ jj = .int .i64 (j : Int) ∧ wr.ownsRow w.heap.size 3 1 v (atLeast (l.take j) n).length ((atLeast (l.take j) n).map (Value.int .i64)) ∧ Below w.heap.size w wr) (fun _ jj _ => m' - (intOf jj).toNat)
          case atStart => exact ⟨0, Nat.zero_le _, rfl, by simp only [List.take_zero]; exact World.ownsRow_nil _ _ _ _, HB.out⟩
          case round =>
            obtain ⟨j, hj, rfl, how, hbw⟩ := hrel
            have hll := atLeast_len (l.take j) n
            rw [List.length_take] at hll
            have hI := Ints.of_own how (atLeast_in (fun q hq => HH.out.2.2 q (List.mem_of_mem_take hq)) n)
            obtain ⟨As, cs, rfl, -, -⟩ := hI.form
            have HO := Lib.hid (And.intro how (And.intro hbw (And.intro hI hll)))
            obtain ⟨na, hna⟩ : ∃ na, na = (atLeast (l.take j) n).length := ⟨_, rfl⟩
            have HNA := Lib.hid hna
            rw [← hna]
            clear how hbw hI hll hna
            have e2 := (HO.out.2.1.cell (p := ⟨b, off + i * 2 + 1, none⟩) HCL.out.1).trans HCL.out.2.2.1
            by_cases hjt : j < m'
            · have ij : (j : Int) < (m' : Int) := by omega
              have ij0 : (0 : Int) ≤ (j : Int) := by omega
              obtain ⟨p1, p2⟩ := HCL.out.2.1 j hjt
              have e1 := (HO.out.2.1.cell (p := ⟨b, off + j * 2, none⟩) HCL.out.1).trans p1
              have e3 := (HO.out.2.1.cell (p := ⟨b, off + j * 2 + 1, none⟩) HCL.out.1).trans p2
              have hax := atLeast_getD (n := n) (show j < l.length by have := HM.out.1; omega)
              obtain ⟨x, hx⟩ : ∃ x, x = l.getD j (0, 0) := ⟨_, rfl⟩
              rw [← hx] at e1 e3 hax
              clear p1 p2 hx
              by_cases hge : n ≤ x.2
              · rw [if_pos hge] at hax
                have HAX := Lib.hid hax
                clear hax
                go_wp2_with fail
                go_quiet (fail)
                have f1 : (wr.drewN nq).cell? ⟨b, off + j * 2, none⟩ = some (.int .i64 x.1) := e1
                clear e1 e2 e3
                go_wp2_with (at_builtin; go_must (refine wpList_pushI (B := w.heap.size) (v := .slice As na cs) (zs := atLeast (l.take j) n) ?_ rfl (.tmp 54) (.tmp 60) rfl rfl (wr.drewN nq).heap.size rfl x.1 (heap_alloc_new _ _) ?_ ?_ ?_))
                · rw [HNA.out]
                  exact own_kept HO.out.1 ((below_drawn (Below.refl _ _) nq).alloc (Nat.le_refl _) _)
                · have := HO.out.2.2.2; rw [← HNA.out] at this ⊢; omega
                · rw [World.size_alloc]; have := HO.out.2.1.size; show _ ≤ wr.heap.size + 1; omega
                · intro v' w' ho hgb
                  have O := Lib.hid (And.intro ho (((below_drawn HO.out.2.1 nq).alloc HO.out.2.1.size _).grown hgb (by rw [World.size_alloc]; have := HO.out.2.1.size; show _ ≤ wr.heap.size + 1; omega) (fun q hq => by have := HO.out.1; rw [← HNA.out] at this; exact (this.lt q hq).1)))
                  clear ho hgb
                  go_wp2_with fail
                  go_roundw
                  case rel => exact ⟨j + 1, by omega, by go_num, by rw [HAX.out, List.length_append, List.map_append]; exact O.out.1, O.out.2⟩
                  case measure => simp [intOf]; omega
              · rw [if_neg hge, List.append_nil] at hax
                have HAX := Lib.hid hax
                clear hax
                go_wp2_with fail
                go_quiet (fail)
                go_wp2_with fail
                go_roundw
                case rel => exact ⟨j + 1, by omega, by go_num, by rw [HAX.out, HNA.out]; exact HO.out.1, below_drawn HO.out.2.1 _⟩
                case measure => simp [intOf]; omega
            · obtain rfl : j = m' := by omega
              have ij : ¬ (j : Int) < (j : Int) := by omega
              have hall : l.take j = l := List.take_of_length_le (by have := HM.out.1; omega)
              rw [hall] at HO HNA
              have hmem : (l.getD i (0, 0)) ∈ l := by
                have hil : i < l.length := by have := HM.out.1; omega
                simp [List.getD, List.getElem?_eq_getElem hil]
              have HI := Lib.hid (show Ints wr (.slice As na cs) (atLeast l n) by rw [HNA.out]; exact HO.out.2.2.1)
              have HL := Lib.hid (show na ≤ 300 by have := HO.out.2.2.2; have := atLeast_len l n; rw [HNA.out]; have := HN.out.2; have := HM.out.1; omega)
              clear hall
              by_cases hn0 : 0 < n
              · have hq := agreed_at (c := zs) hmem (by rw [← HCL.out.2.2.2]; exact hn0)
                rw [← HCL.out.2.2.2, ← HG.out] at hq
                obtain ⟨d, hd⟩ : ∃ d, d = decide (n ≤ g) := ⟨_, rfl⟩
                rw [← hd] at hq
                have hd' := hd.symm
                have CQ := Lib.hid fun A m c A' m' c' (W : World) h h' h1 h2 => C.cQuorum A m c zs A' m' c' (atLeast l n) W h h' h1 h2 d hq.symm
                have dn := decide_eq_true hn0
                clear hmem hq hd
                go_wp2_with fail
                have hd0 : Below wr.heap.size wr wr.drew ∧ wr.drew.cell? ⟨b, off + i * 2 + 1, none⟩ = some (.int .i64 n) := ⟨(Below.refl _ _).drew, e2⟩
                refine wp_region_held_drew (S := fun W => Below wr.heap.size wr W ∧ W.cell? ⟨b, off + i * 2 + 1, none⟩ = some (.int .i64 n)) (by kernel_rfl) hd0 (fun hHeld => ?_)
                clear hd0
                refine wpAnyH_take (i := 0) (oi := { dst := Option.some 62, op := Op.move (Operand.tmp 1), type := 23, pos := "law.go:140", after := #[], guard := Option.none }) (v := .slice (some ⟨b, off, none⟩) j c') rfl (by kernel_rfl) (by kernel_rfl) (by kernel_rfl) (fun _ _ _ h => h) (Or.inl ⟨by rfl, ?_⟩) hHeld ?_
                · intro W hSw
                  have z2 := hSw.2
                  go_simp
                simp only [Act.put, List.setIfInBounds_toArray, List.set_cons_zero, List.set_cons_succ]
                refine wpAnyH_take (i := 1) (oi := { dst := Option.some 63, op := Op.move (Operand.tmp 6), type := 3, pos := "law.go:140", after := #[], guard := Option.none }) (v := .int .i64 (i : Int)) rfl (by kernel_rfl) (by kernel_rfl) (by kernel_rfl) (fun _ _ _ h => h) (Or.inl ⟨by rfl, ?_⟩) hHeld ?_
                · intro W hSw
                  have z2 := hSw.2
                  go_simp
                simp only [Act.put, List.setIfInBounds_toArray, List.set_cons_zero, List.set_cons_succ]
                refine wpAnyH_take (i := 2) (oi := { dst := Option.some 64, op := Op.indexAddr 23 (Operand.tmp 62) (Operand.tmp 63), type := 0, pos := "law.go:140", after := #[{ on := 0, ground := Ground.data }, { on := 1, ground := Ground.data }], guard := Option.none }) (v := .pointer (some ⟨b, off + i * 2, none⟩)) rfl (by kernel_rfl) (by kernel_rfl) (by kernel_rfl) (fun _ _ _ h => h) (Or.inl ⟨by rfl, ?_⟩) hHeld ?_
                · intro W hSw
                  have z2 := hSw.2
                  go_simp
                simp only [Act.put, List.setIfInBounds_toArray, List.set_cons_zero, List.set_cons_succ]
                refine wpAnyH_take (i := 3) (oi := { dst := Option.some 65, op := Op.fieldAddr 45 (Operand.tmp 64) 1, type := 0, pos := "law.go:140", after := #[{ on := 2, ground := Ground.data }], guard := Option.none }) (v := .pointer (some ⟨b, off + i * 2 + 1, none⟩)) rfl (by kernel_rfl) (by kernel_rfl) (by kernel_rfl) (fun _ _ _ h => h) (Or.inl ⟨by rfl, ?_⟩) hHeld ?_
                · intro W hSw
                  have z2 := hSw.2
                  go_simp
                simp only [Act.put, List.setIfInBounds_toArray, List.set_cons_zero, List.set_cons_succ]
                refine wpAnyH_take (i := 4) (oi := { dst := Option.some 66, op := Op.load 3 (Operand.tmp 65), type := 3, pos := "law.go:140", after := #[{ on := 3, ground := Ground.data }], guard := Option.none }) (v := .int .i64 n) rfl (by kernel_rfl) (by kernel_rfl) (by kernel_rfl) (fun _ _ _ h => h) (Or.inl ⟨by rfl, ?_⟩) hHeld ?_
                · intro W hSw
                  have z2 := hSw.2
                  go_simp
                simp only [Act.put, List.setIfInBounds_toArray, List.set_cons_zero, List.set_cons_succ]
                refine wpAnyH_take (i := 5) (oi := { dst := Option.some 67, op := Op.binOp BinOp.gtr 3 (Operand.tmp 66) (Operand.const (Value.int IntKind.i64 0)) 3, type := 4, pos := "law.go:140", after := #[{ on := 4, ground := Ground.data }], guard := Option.none }) (v := .bool true) rfl (by kernel_rfl) (by kernel_rfl) (by kernel_rfl) (fun _ _ _ h => h) (Or.inl ⟨by rfl, ?_⟩) hHeld ?_
                · intro W hSw
                  have z2 := hSw.2
                  go_simp
                simp only [Act.put, List.setIfInBounds_toArray, List.set_cons_zero, List.set_cons_succ]
                refine wpAnyH_take (i := 6) (oi := { dst := Option.some 68, op := Op.move (Operand.tmp 67), type := 4, pos := "law.go:140", after := #[{ on := 5, ground := Ground.data }], guard := Option.none }) (v := .bool true) rfl (by kernel_rfl) (by kernel_rfl) (by kernel_rfl) (fun _ _ _ h => h) (Or.inl ⟨by rfl, ?_⟩) hHeld ?_
                · intro W hSw
                  have z2 := hSw.2
                  go_simp
                simp only [Act.put, List.setIfInBounds_toArray, List.set_cons_zero, List.set_cons_succ]
                refine wpAnyH_take (i := 7) (oi := { dst := Option.some 69, op := Op.move (Operand.tmp 0), type := 22, pos := "law.go:140", after := #[{ on := 6, ground := Ground.guard }], guard := Option.some (6, true) }) (v := .slice A m c) rfl (by kernel_rfl) (by kernel_rfl) (by kernel_rfl) (fun _ _ _ h => h) (Or.inl ⟨by rfl, ?_⟩) hHeld ?_
                · intro W hSw
                  have z2 := hSw.2
                  go_simp
                simp only [Act.put, List.setIfInBounds_toArray, List.set_cons_zero, List.set_cons_succ]
                refine wpAnyH_take (i := 9) (oi := { dst := Option.some 71, op := Op.move (Operand.tmp 7), type := 22, pos := "law.go:140", after := #[{ on := 6, ground := Ground.guard }], guard := Option.some (6, true) }) (v := .slice As na cs) rfl (by kernel_rfl) (by kernel_rfl) (by kernel_rfl) (fun _ _ _ h => h) (Or.inl ⟨by rfl, ?_⟩) hHeld ?_
                · intro W hSw
                  have z2 := hSw.2
                  go_simp
                simp only [Act.put, List.setIfInBounds_toArray, List.set_cons_zero, List.set_cons_succ]
                refine wpAnyH_take (i := 11) (oi := { dst := Option.some 73, op := Op.move (Operand.tmp 1), type := 23, pos := "law.go:140", after := #[{ on := 6, ground := Ground.guard }], guard := Option.some (6, true) }) (v := .slice (some ⟨b, off, none⟩) j c') rfl (by kernel_rfl) (by kernel_rfl) (by kernel_rfl) (fun _ _ _ h => h) (Or.inl ⟨by rfl, ?_⟩) hHeld ?_
                · intro W hSw
                  have z2 := hSw.2
                  go_simp
                simp only [Act.put, List.setIfInBounds_toArray, List.set_cons_zero, List.set_cons_succ]
                refine wpAnyH_take (i := 12) (oi := { dst := Option.some 74, op := Op.move (Operand.tmp 6), type := 3, pos := "law.go:140", after := #[{ on := 6, ground := Ground.guard }], guard := Option.some (6, true) }) (v := .int .i64 (i : Int)) rfl (by kernel_rfl) (by kernel_rfl) (by kernel_rfl) (fun _ _ _ h => h) (Or.inl ⟨by rfl, ?_⟩) hHeld ?_
                · intro W hSw
                  have z2 := hSw.2
                  go_simp
                simp only [Act.put, List.setIfInBounds_toArray, List.set_cons_zero, List.set_cons_succ]
                refine wpAnyH_take (i := 13) (oi := { dst := Option.some 75, op := Op.indexAddr 23 (Operand.tmp 73) (Operand.tmp 74), type := 0, pos := "law.go:140", after := #[{ on := 11, ground := Ground.data }, { on := 12, ground := Ground.data }, { on := 6, ground := Ground.guard }], guard := Option.some (6, true) }) (v := .pointer (some ⟨b, off + i * 2, none⟩)) rfl (by kernel_rfl) (by kernel_rfl) (by kernel_rfl) (fun _ _ _ h => h) (Or.inl ⟨by rfl, ?_⟩) hHeld ?_
                · intro W hSw
                  have z2 := hSw.2
                  go_simp
                simp only [Act.put, List.setIfInBounds_toArray, List.set_cons_zero, List.set_cons_succ]
                refine wpAnyH_take (i := 14) (oi := { dst := Option.some 76, op := Op.fieldAddr 45 (Operand.tmp 75) 1, type := 0, pos := "law.go:140", after := #[{ on := 13, ground := Ground.data }, { on := 6, ground := Ground.guard }], guard := Option.some (6, true) }) (v := .pointer (some ⟨b, off + i * 2 + 1, none⟩)) rfl (by kernel_rfl) (by kernel_rfl) (by kernel_rfl) (fun _ _ _ h => h) (Or.inl ⟨by rfl, ?_⟩) hHeld ?_
                · intro W hSw
                  have z2 := hSw.2
                  go_simp
                simp only [Act.put, List.setIfInBounds_toArray, List.set_cons_zero, List.set_cons_succ]
                refine wpAnyH_take (i := 15) (oi := { dst := Option.some 77, op := Op.load 3 (Operand.tmp 76), type := 3, pos := "law.go:140", after := #[{ on := 14, ground := Ground.data }, { on := 6, ground := Ground.guard }], guard := Option.some (6, true) }) (v := .int .i64 n) rfl (by kernel_rfl) (by kernel_rfl) (by kernel_rfl) (fun _ _ _ h => h) (Or.inl ⟨by rfl, ?_⟩) hHeld ?_
                · intro W hSw
                  have z2 := hSw.2
                  go_simp
                simp only [Act.put, List.setIfInBounds_toArray, List.set_cons_zero, List.set_cons_succ]
                refine wpAnyH_take (i := 16) (oi := { dst := Option.some 78, op := Op.move (Operand.tmp 5), type := 3, pos := "law.go:140", after := #[{ on := 6, ground := Ground.guard }], guard := Option.some (6, true) }) (v := .int .i64 g) rfl (by kernel_rfl) (by kernel_rfl) (by kernel_rfl) (fun _ _ _ h => h) (Or.inl ⟨by rfl, ?_⟩) hHeld ?_
                · intro W hSw
                  have z2 := hSw.2
                  go_simp
                simp only [Act.put, List.setIfInBounds_toArray, List.set_cons_zero, List.set_cons_succ]
                refine wpAnyH_take (i := 17) (oi := { dst := Option.some 79, op := Op.binOp BinOp.leq 3 (Operand.tmp 77) (Operand.tmp 78) 3, type := 4, pos := "law.go:140", after := #[{ on := 15, ground := Ground.data }, { on := 16, ground := Ground.data }, { on := 6, ground := Ground.guard }], guard := Option.some (6, true) }) (v := .bool d) rfl (by kernel_rfl) (by kernel_rfl) (by kernel_rfl) (fun _ _ _ h => h) (Or.inl ⟨by rfl, ?_⟩) hHeld ?_
                · intro W hSw
                  have z2 := hSw.2
                  go_simp
                simp only [Act.put, List.setIfInBounds_toArray, List.set_cons_zero, List.set_cons_succ]
                refine wpAnyH_ready (rs := [8]) (by kernel_rfl) (by simp) ?_
                refine AllReadyH.cons (o := { dst := Option.some 70, op := Op.call { callee := Callee.value (Operand.func 12), args := #[Operand.tmp 69], argTypes := #[22] }, type := 26, pos := "law.go:140", after := #[{ on := 7, ground := Ground.data }, { on := 6, ground := Ground.chain }, { on := 6, ground := Ground.guard }], guard := Option.some (6, true) }) rfl (fun K hK => ?_) AllReadyH.nil
                go_simp
                refine (own_any A m c zs _ (HH.out.1.below HO.out.2.1.drew) (by have := HN.out; omega)).mono ?_
                rintro y w1 ⟨A1, c1, rfl, hi1, hb1⟩
                have hb2 : Below wr.heap.size wr w1 := (Below.refl _ _).drew.trans hb1
                have I1 := Lib.hid (And.intro hi1 hb2)
                clear hi1
                refine hK.out _ _ ⟨hb2, (hb2.cell (p := ⟨b, off + i * 2 + 1, none⟩) (Nat.lt_of_lt_of_le HCL.out.1 HO.out.2.1.size)).trans e2⟩ (fun hHeld => ?_)
                clear hK K hb1 hb2
                refine wpAnyH_ready (rs := [10]) (by kernel_rfl) (by simp) ?_
                refine AllReadyH.cons (o := { dst := Option.some 72, op := Op.call { callee := Callee.value (Operand.func 11), args := #[Operand.tmp 70, Operand.tmp 71], argTypes := #[26, 22] }, type := 4, pos := "law.go:140", after := #[{ on := 8, ground := Ground.data }, { on := 9, ground := Ground.data }, { on := 8, ground := Ground.chain }, { on := 6, ground := Ground.guard }], guard := Option.some (6, true) }) rfl (fun K hK => ?_) AllReadyH.nil
                go_simp
                refine (CQ.out _ _ _ _ _ _ _ I1.out.1 (HI.out.below I1.out.2) HN.out.1 HL.out).mono ?_
                rintro y w2 ⟨rfl, hb1⟩
                have hb2 : Below wr.heap.size wr w2 := I1.out.2.trans (hb1.mono I1.out.2.size)
                have I2 := Lib.hid hb2
                refine hK.out _ _ ⟨hb2, (hb2.cell (p := ⟨b, off + i * 2 + 1, none⟩) (Nat.lt_of_lt_of_le HCL.out.1 HO.out.2.1.size)).trans e2⟩ (fun hHeld => ?_)
                clear hK K hb1 hb2
                refine wpAnyH_take (i := 18) (oi := { dst := Option.some 80, op := Op.binOp BinOp.neq 4 (Operand.tmp 72) (Operand.tmp 79) 4, type := 4, pos := "law.go:140", after := #[{ on := 10, ground := Ground.data }, { on := 17, ground := Ground.data }, { on := 6, ground := Ground.guard }], guard := Option.some (6, true) }) (v := .bool false) rfl (by kernel_rfl) (by kernel_rfl) (by kernel_rfl) (fun _ _ _ h => h) (Or.inl ⟨by rfl, ?_⟩) hHeld ?_
                · intro W hSw
                  go_simp
                simp only [Act.put, List.setIfInBounds_toArray, List.set_cons_zero, List.set_cons_succ]
                refine wpAnyH_take (i := 19) (oi := { dst := Option.some 81, op := Op.pick (Operand.tmp 68) (Operand.tmp 80) (Operand.const (Value.bool false)), type := 4, pos := "law.go:140", after := #[{ on := 6, ground := Ground.data }, { on := 18, ground := Ground.data }], guard := Option.none }) (v := .bool false) rfl (by kernel_rfl) (by kernel_rfl) (by kernel_rfl) (fun _ _ _ h => h) (Or.inl ⟨by rfl, ?_⟩) hHeld ?_
                · intro W hSw
                  go_simp
                simp only [Act.put, List.setIfInBounds_toArray, List.set_cons_zero, List.set_cons_succ]
                clear hHeld
                refine wpAnyH_done (by kernel_rfl) ?_ _
                go_wp2_with fail
                go_roundw
                case rel => exact ⟨i + 1, by omega, by go_num, HO.out.2.1.trans (I2.out.mono HO.out.2.1.size)⟩
                case measure => simp [intOf]; omega
              · have dn := decide_eq_false hn0
                clear hmem
                go_wp2_with fail
                go_quiet (fail)
                go_wp2_with fail
                go_roundw
                case rel => exact ⟨i + 1, by omega, by go_num, below_drawn HO.out.2.1 _⟩
                case measure => simp [intOf]; omega
        · obtain rfl : i = m' := by omega
          have ii : ¬ (i : Int) < (i : Int) := by omega
          go_wp2_with (go_at_call 10; go_must (refine (sure_any C _).mono ?_; rintro y w1 ⟨rfl, hb1⟩; have HB := Lib.hid (HB.out.trans (hb1.mono HB.out.size)); clear hb1))
          go_ret
          exact ⟨rfl, HB.out⟩

end Go.Proofs.Ytgnonfnipifbiaa.pk
