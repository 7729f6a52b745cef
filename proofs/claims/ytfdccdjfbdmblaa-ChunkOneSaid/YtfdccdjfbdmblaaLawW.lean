/-
  The law ChunkWhole: walked.
-/
import Derived.Test.YtfdccdjfbdmblaaConK
namespace Go.Proofs.Ytfdccdjfbdmblaa.pk
open Go Go.RowKit
set_option maxRecDepth 100000

theorem cells2 {w : World} {b t : Nat} {v0 v1 : Value} (h : w.heap[b]? = some (.cells #[v0, v1] t (0, 0))) : w.cell? ⟨b, 0, none⟩ = some v0 ∧ w.cell? ⟨b, 1, none⟩ = some v1 ∧ ∀ j, w.frozen? ⟨b, j, none⟩ = false := by
  refine ⟨?_, ?_, fun j => frozen_of_row w b j _ _ h⟩
  all_goals
    rw [cell_of_row w b _ _ _ (0, 0) h]
    rfl
theorem put2 {w : World} {b : Nat} {u0 u1 : Value} {t : Nat} (h : w.heap[b]? = some (.cells #[u0, u1] t (0, 0))) (v0 v1 : Value) :
    ((w.setCell ⟨b, 0, none⟩ v0).setCell ⟨b, 1, none⟩ v1).heap[b]? = some (.cells #[v0, v1] t (0, 0)) := by
  simp [World.setCell, Array.getElem?_modify, h]
theorem put2_other (w : World) (b : Nat) (v0 v1 : Value) (k : Nat) (hk : k ≠ b) : ((w.setCell ⟨b, 0, none⟩ v0).setCell ⟨b, 1, none⟩ v1).heap[k]? = w.heap[k]? := by
  rw [Below.heap_setCell _ _ _ _ hk, Below.heap_setCell _ _ _ _ hk]
theorem obj_lt {w : World} {b : Nat} {o : Obj} (h : w.heap[b]? = some o) : b < w.heap.size := by
  rcases Nat.lt_or_ge b w.heap.size with hlt | hge
  · exact hlt
  · rw [Array.getElem?_eq_none hge] at h; cases h

/-- The piece behind what is there. -/
theorem cut_on {t : List UInt8} {k i : Nat} (h1 : 1 ≤ k) (h2 : k ≤ 20) (hi : i * k < t.length ∨ i = 0) (hm : t.length ≤ 1000) :
    ∃ p, ∃ last : Bool, cutK t ((t.take (i * k)).length : Int) (k : Int) = (p, last, 0) ∧ (t.take (i * k)).length = i * k ∧ p.length ≤ k ∧ t.take (i * k) ++ p = t.take ((i + 1) * k) ∧ (last = true → t.take (i * k) ++ p = t) ∧ (last = false → (i + 1) * k < t.length) ∧
      putK 7 (t.take (i * k)) 7 ((t.take (i * k)).length : Int) p last = (if last then ⟨7, [], t.take (i * k) ++ p, (t.take (i * k) ++ p).length, true⟩ else ⟨7, t.take (i * k) ++ p, [], (t.take (i * k) ++ p).length, false⟩) := by
  have hsplit : (i + 1) * k = i * k + k := by rw [Nat.add_mul, Nat.one_mul]
  have hle : i * k ≤ t.length := by
    rcases hi with hi | rfl
    · omega
    · omega
  have hoff : (t.take (i * k)).length = i * k := by rw [List.length_take]; omega
  have hpl : ((t.drop (i * k)).take k).length ≤ k := by rw [List.length_take]; omega
  refine ⟨(t.drop (i * k)).take k, decide (t.length ≤ i * k + k), ?_, hoff, hpl, by rw [hsplit, List.take_add], ?_, ?_, ?_⟩
  · rw [hoff]
    unfold cutK
    rw [if_neg (by omega), if_neg (by
      rintro (h | h | h)
      · omega
      · omega
      · rcases hi with hi | rfl
        · omega
        · omega)]
    have ht : ((i * k : Nat) : Int).toNat = i * k := by omega
    by_cases hl : t.length ≤ i * k + k
    · rw [if_pos (by omega), ht, decide_eq_true hl, List.take_of_length_le (by rw [List.length_drop]; omega)]
    · rw [if_neg (by omega), ht, decide_eq_false hl]
      simp
  · intro hl
    have hl := of_decide_eq_true hl
    rw [List.take_of_length_le (l := t.drop (i * k)) (by rw [List.length_drop]; omega), List.take_append_drop]
  · intro hl
    have hl := of_decide_eq_false hl
    omega
  · generalize decide (t.length ≤ i * k + k) = last
    unfold putK
    have hb : (if ((t.take (i * k)).length : Int) = 0 then [] else t.take (i * k)) = t.take (i * k) := by
      by_cases h0 : ((t.take (i * k)).length : Int) = 0
      · rw [if_pos h0]
        exact (List.eq_nil_of_length_eq_zero (by omega)).symm
      · rw [if_neg h0]
    rw [hb, if_neg (by omega), if_neg (by split <;> omega)]
/-- A piece of another place is not taken. -/
theorem cut_other {t : List UInt8} {k a : Nat} {h : List UInt8} (h1 : 1 ≤ k) (h2 : k ≤ 20) (ha : 0 < a) (hb : a < t.length) (hn : a ≠ h.length) :
    ∃ p, ∃ last : Bool, cutK t (a : Int) (k : Int) = (p, last, 0) ∧ p.length ≤ k ∧ putK 7 h 7 (a : Int) p last = ⟨7, h, [], (h.length : Nat), false⟩ := by
  refine ⟨(cutK t a k).1, (cutK t a k).2.1, ?_, ?_, ?_⟩
  · have : (cutK t a k).2.2 = 0 := by
      unfold cutK
      rw [if_neg (by omega), if_neg (by omega)]
      split <;> rfl
    rw [← this]
  · unfold cutK
    rw [if_neg (by omega), if_neg (by omega)]
    split
    · show (t.drop _).length ≤ k
      rw [List.length_drop]; omega
    · show ((t.drop _).take _).length ≤ k
      rw [List.length_take]; omega
  · unfold putK
    rw [if_pos ⟨by omega, Or.inr (by omega)⟩, if_neg (by decide)]

set_option maxHeartbeats 16000000 in
theorem whole_true (C : ConK) (A : Option Addr) (m c : Nat) (t : List UInt8) (size : Int) (A3 : Option Addr) (m3 c3 : Nat) (bs : List Int) (w : World) (h : Bys w (.slice A m c) t) (h3 : Ints w (.slice A3 m3 c3) bs) :
    Calls Try.prog 4 #[.slice A m c, .int .i64 size, .slice A3 m3 c3] w fun y w' => y = .returned (.bool true) ∧ Below w.heap.size w w' := by
  have hwr : IntKind.u64.wrap size = size % 18446744073709551616 := IntKind.wrap_u64 size
  have ha0 : 0 ≤ size % 18446744073709551616 := by omega
  generalize size % 18446744073709551616 = a at hwr ha0
  have hmt : a.tmod 9 = a % 9 := Int.tmod_eq_emod_of_nonneg ha0
  obtain ⟨N, hN⟩ : ∃ N : Nat, a % 9 = (N : Int) := ⟨(a % 9).toNat, by omega⟩
  rw [hN] at hmt
  have hN20 : (N : Int) < 9 := by omega
  have hwu : IntKind.u64.wrap (N : Int) = (N : Int) := by rw [IntKind.wrap_u64]; omega
  have hwi : IntKind.i64.wrap (N : Int) = (N : Int) := IntWalk.i64_in _ (by omega)
  have hws : IntKind.i64.wrap (1 + (N : Int)) = 1 + (N : Int) := IntWalk.i64_in _ (by omega)
  obtain ⟨k, hk⟩ : ∃ k : Nat, k = N + 1 := ⟨_, rfl⟩
  have hkI : 1 + (N : Int) = (k : Int) := by omega
  have HK := Lib.hid (show 1 ≤ k ∧ k ≤ 9 by omega)
  have HKI := Lib.hid hkI
  have HML := Lib.hid h.len_
  have HH := Lib.hid (And.intro h h3)
  have HM3 := Lib.hid h3.at_
  have HB := Lib.hid (Below.refl w.heap.size w)
  have im3 : (m3 : Int) ≤ 9223372036854775807 := by have := h3.at_; omega
  clear hN h h3 ha0 hk hkI
  by_cases hbig : 1000 < m
  · have hg : 1000 < (m : Int) := by omega
    clear hbig
    go_enter Try.func4, Try.ntmps4
    go_wp2_with (first
      | (go_at_call 9; go_must (refine (sureK C _).mono ?_; rintro y w1 ⟨rfl, hb1⟩; have HB := Lib.hid (HB.out.trans (hb1.mono HB.out.size)); clear hb1)))
    go_ret
    exact ⟨rfl, HB.out⟩
  · have hg : ¬ 1000 < (m : Int) := by omega
    have HM := Lib.hid (show m ≤ 1000 by omega)
    have im : (m : Int) ≤ 1000 := by omega
    clear hbig
    go_enter Try.func4, Try.ntmps4
    go_upto_region 2 with fail
    rw [HKI.out]
    clear hwr hmt hN20 hwu hwi hws
    go_wp2_with fail
    obtain ⟨b8, hb8⟩ : ∃ b, b = w.heap.size := ⟨_, rfl⟩
    rw [← hb8]
    have HB8 := Lib.hid hb8
    clear hb8 HB
    go_loopw [9, 10] (fun oo ii wr => ∃ (i : Nat) (Ah : Option Addr) (ch : Nat), i ≤ m ∧ (i * k < m ∨ i = 0) ∧ ii = .int .i64 (i : Int) ∧ oo = .int .i64 ((t.take (i * k)).length : Int) ∧ wr.heap[b8]? = some (.cells #[.int .i64 7, .slice Ah (t.take (i * k)).length ch] 25 (0, 0)) ∧
        SlT wr (fun q => q < wr.heap.size ∧ q ≠ b8) (.slice Ah (t.take (i * k)).length ch) (t.take (i * k)) ∧ Below w.heap.size w wr) (fun _ ii _ => m + 1 - (intOf ii).toNat)
    case atStart => exact ⟨0, none, 0, Nat.zero_le _, Or.inr rfl, rfl, by simp, by rw [HB8.out, Nat.zero_mul]; exact heap_alloc_new _ _, by rw [Nat.zero_mul]; exact SlT.nil_ _ _, below_alloc _ _⟩
    case round =>
      obtain ⟨i, Ah, ch, him, hik, rfl, rfl, hbx, hsl, hbw⟩ := hrel
      have ii : (i : Int) ≤ (m : Int) := by omega
      have ii0 : (0 : Int) ≤ (i : Int) := by omega
      obtain ⟨p, last, e1, e2, e3, e4, e5, e6, e7⟩ := cut_on (t := t) (k := k) (i := i) HK.out.1 (by have := HK.out; omega) (by rw [← HML.out]; exact hik) (by rw [← HML.out]; exact HM.out)
      obtain ⟨hv, hhv⟩ : ∃ hv, hv = t.take (i * k) := ⟨_, rfl⟩
      rw [← hhv] at hbx hsl e1 e2 e4 e5 e7 ⊢
      obtain ⟨nh, hnh⟩ : ∃ nh, nh = hv.length := ⟨_, rfl⟩
      rw [← hnh] at hbx hsl e1 e2 e7 ⊢
      have hnm : nh ≤ m := by rw [HML.out, hnh, hhv, List.length_take]; omega
      have hnI : (nh : Int) ≤ 1000 := by omega
      have HR := Lib.hid (And.intro hbx (And.intro hsl hbw))
      have HE := Lib.hid (And.intro e1 (And.intro e2 (And.intro e3 (And.intro e4 (And.intro e5 (And.intro e6 e7))))))
      have HV := Lib.hid (And.intro hhv (And.intro hnh (And.intro hnm hik)))
      obtain ⟨x0, x1, x2⟩ := cells2 hbx
      clear hbx hsl hbw e1 e2 e3 e4 e5 e6 e7 hhv hnh hnm hik
      have HB := Lib.hid (Below.refl wr.heap.size wr)
      have CT := Lib.hid fun (W : World) (hW : Below wr.heap.size wr W) => C.cCut A m c t (nh : Int) (k : Int) W ((HH.out.1.below HR.out.2.2).below hW) (by have := HM.out; omega) (by unfold inI; omega) (by have := HK.out; unfold inI; omega) _ HE.out.1.symm
      obtain ⟨np, hnp⟩ : ∃ np, np = p.length := ⟨_, rfl⟩
      have HNP := Lib.hid hnp
      simp only [← hnp, er_zero] at CT
      clear hnp
      have hway : (¬ (i : Int) < (m3 : Int)) ∨ ∃ (b3 o3 : Nat) (z : Int) (u : Int) (av : Nat), A3 = some ⟨b3, o3, none⟩ ∧ (i : Int) < (m3 : Int) ∧ i < m3 ∧ b3 < w.heap.size ∧ w.cell? ⟨b3, o3 + i, none⟩ = some (.int .i64 z) ∧ IntKind.u64.wrap z = u ∧ u.tmod ((m : Int) + 1) = (av : Int) ∧ (av : Int) ≤ (m : Int) := by
        by_cases hlt3 : i < m3
        · obtain ⟨b3, o3, e, hb3, hc3⟩ := HM3.out.2.2.2 (by omega)
          have hz := HH.out.2.getD_in i
          have hw : IntKind.u64.wrap (bs.getD i 0) = bs.getD i 0 % 18446744073709551616 := IntKind.wrap_u64 _
          have hu0 : 0 ≤ bs.getD i 0 % 18446744073709551616 := by omega
          have ht := Int.tmod_eq_emod_of_nonneg (b := (m : Int) + 1) hu0
          have h1 := Int.emod_nonneg (bs.getD i 0 % 18446744073709551616) (b := (m : Int) + 1) (by omega)
          have h2 := Int.emod_lt_of_pos (bs.getD i 0 % 18446744073709551616) (b := (m : Int) + 1) (by omega)
          exact Or.inr ⟨b3, o3, _, _, ((bs.getD i 0 % 18446744073709551616) % ((m : Int) + 1)).toNat, e, by omega, hlt3, hb3, hc3 i hlt3, hw, by rw [ht]; omega, by omega⟩
        · exact Or.inl (by omega)
      have s1 : IntKind.i64.wrap ((m : Int) + 1) = (m : Int) + 1 := IntWalk.i64_in _ (by omega)
      have s2 : IntKind.u64.wrap ((m : Int) + 1) = (m : Int) + 1 := by rw [IntKind.wrap_u64]; omega
      rcases hway with hno | ⟨b3, o3, z, u, av, rfl, hi3, hi3n, hb3, hc3, hwz, htz, hav⟩
      focus go_upto_region 18 with fail
      rotate_left
      have g3 := (HR.out.2.2.cell (p := ⟨b3, o3 + i, none⟩) hb3).trans hc3
      have s3 : IntKind.i64.wrap (av : Int) = (av : Int) := IntWalk.i64_in _ (by omega)
      have s4 : IntKind.u64.wrap (av : Int) = (av : Int) := by rw [IntKind.wrap_u64]; omega
      clear hb3 hc3
      by_cases hok : 0 < av ∧ av < m ∧ av ≠ nh
      obtain ⟨h1, h2, h3⟩ := hok
      obtain ⟨q, ql, f1, f2, f3⟩ := cut_other (t := t) (k := k) (a := av) (h := hv) HK.out.1 (by have := HK.out; omega) h1 (by rw [← HML.out]; exact h2) (by rw [← HV.out.2.1]; exact h3)
      have j1 : (0 : Int) < (av : Int) := by omega
      have j2 : (av : Int) < (m : Int) := by omega
      have j3 : ¬ (av : Int) = (nh : Int) := by omega
      have jn1 : 0 < av := h1
      have jn3 : ¬ av = nh := h3
      obtain ⟨nq, hnq⟩ : ∃ nq, nq = q.length := ⟨_, rfl⟩
      rw [← HV.out.2.1] at f3
      have KA := Lib.hid fun (W : World) (hW : Below wr.heap.size wr W) => C.cCut A m c t (av : Int) (k : Int) W ((HH.out.1.below HR.out.2.2).below hW) (by have := HM.out; omega) (by unfold inI; omega) (by have := HK.out; unfold inI; omega) _ f1.symm
      simp only [← hnq, er_zero] at KA
      have KB := Lib.hid fun (A5 : Option Addr) (c5 : Nat) (W : World) (hW : Below wr.heap.size wr W) (h5 : Bys W (.slice A5 nq c5) q) => C.cPut 7 Ah nh ch hv 7 (av : Int) A5 nq c5 q ql W ((SlT.kept HR.out.2.1 fun x hx _ => hW.block x hx.1).mono fun x hx => Nat.lt_of_lt_of_le hx.1 hW.size) h5 (by have := HV.out.2.2.1; have := HM.out; omega) (by rw [hnq]; have := HK.out; omega) (by unfold inI; omega) (by unfold inI; omega) (by unfold inI; omega) _ f3.symm
      simp only [← HV.out.2.1] at KB
      clear f1 f2 f3 h2 h3 hnq
      focus
       go_upto_region 18 with (first
        | (go_at_call 10; go_must (refine (KA.out _ HB.out).mono ?_; rintro y w5 ⟨A5, c5, rfl, hi5, hb5⟩; have HB := Lib.hid (HB.out.trans (hb5.mono HB.out.size)); have I5 := Lib.hid hi5; obtain ⟨y0, y1, y2⟩ := cells2 ((HB.out.block b8 (obj_lt HR.out.1)).trans HR.out.1); clear hi5 hb5))
        | (go_at_call 7; go_must (refine (KB.out _ _ _ HB.out I5.out).mono ?_; rintro y w6 ⟨A6, c6, A7, c7, rfl, hi6, -, hb6⟩; have HB := Lib.hid (HB.out.trans (hb6.mono HB.out.size)); have v1 := fun bl => conv_bytes ((Bys.below (hi6.mono fun _ hx => hx.2) (below_alloc w6 bl)).sl_); have v2 := fun bl => conv_bytes (Bys.sl_ ((SlT.kept HR.out.2.1 fun x hx _ => (HB.out.alloc HB.out.size bl).block x hx.1).mono fun x hx => Nat.lt_of_lt_of_le hx.1 (HB.out.alloc HB.out.size bl).size)); have z1 := fun bl => ((HB.out.alloc HB.out.size bl).cell (p := ⟨b8, 1, none⟩) (obj_lt HR.out.1)).trans x1; clear hi6 hb6)))
       have HB := Lib.hid (HB.out.alloc HB.out.size (.cells #[.int .i64 7, .slice A6 nh c6] 25))
       clear v1 v2 z1 KA KB
      rotate_left
      have hcs : (¬ (0 : Int) < (av : Int)) ∨ ((0 : Int) < (av : Int) ∧ ¬ (av : Int) < (m : Int)) ∨ ((0 : Int) < (av : Int) ∧ (av : Int) < (m : Int) ∧ (av : Int) = (nh : Int)) := by omega
      rcases hcs with j1 | ⟨j1, j2⟩ | ⟨j1, j2, j3⟩
      have jn1 : ¬ 0 < av := by omega
      focus go_upto_region 18 with fail
      rotate_left
      have jn1 : 0 < av := by omega
      focus go_upto_region 18 with fail
      rotate_left
      have jn1 : 0 < av := by omega
      have jn3 : av = nh := by omega
      focus go_upto_region 18 with fail
      rotate_left
      all_goals
        have e7 := HE.out.2.2.2.2.2.2
        have CP := Lib.hid fun (A5 : Option Addr) (c5 : Nat) (W : World) (hW : Below wr.heap.size wr W) (h5 : Bys W (.slice A5 np c5) p) => C.cPut 7 Ah nh ch hv 7 (nh : Int) A5 np c5 p last W ((SlT.kept HR.out.2.1 fun x hx _ => hW.block x hx.1).mono fun x hx => Nat.lt_of_lt_of_le hx.1 hW.size) h5 (by have := HV.out.2.2.1; have := HM.out; omega) (by have := HE.out.2.2.1; have := HNP.out; have := HK.out; omega) (by unfold inI; omega) (by unfold inI; omega) (by unfold inI; omega) _ e7.symm
        clear e7
        cases hlast : last
        · -- not the last piece
          have hnx := HE.out.2.2.2.2.2.1 hlast
          have hap := HE.out.2.2.2.1
          rw [hlast] at CP CT
          simp only [Bool.false_eq_true, if_false, hap] at CP
          obtain ⟨h2, hh2⟩ : ∃ x, x = t.take ((i + 1) * k) := ⟨_, rfl⟩
          obtain ⟨n2, hn2⟩ : ∃ x, x = h2.length := ⟨_, rfl⟩
          rw [← hh2] at CP
          rw [← hn2] at CP
          have HX := Lib.hid (And.intro hh2 (And.intro hn2 hnx))
          clear hh2 hn2 hnx hap hlast
          go_upto_region 26 with (first
            | (go_at_call 10; go_must (refine (CT.out _ HB.out).mono ?_; rintro y w5 ⟨A5, c5, rfl, hi5, hb5⟩; have HB := Lib.hid (HB.out.trans (hb5.mono HB.out.size)); have I5 := Lib.hid hi5; obtain ⟨y0, y1, y2⟩ := cells2 ((HB.out.block b8 (obj_lt HR.out.1)).trans HR.out.1); clear hi5 hb5))
            | (go_at_call 7; go_must (refine (CP.out _ _ _ HB.out I5.out).mono ?_; rintro y w6 ⟨A8, c8, A9, c9, rfl, hi6, -, hb6⟩; have HBP := HB; have HB := Lib.hid (HB.out.trans (hb6.mono HB.out.size)); have I6 := Lib.hid hi6; clear hi6 hb6)))
          have HB6 := HB
          have HB := Lib.hid (HB.out.alloc HB.out.size (.cells #[.int .i64 7, .slice A8 n2 c8] 25))
          have hq22 := heap_alloc_new w6 (.cells #[.int .i64 7, .slice A8 n2 c8] 25)
          have hsl7 := SlT.kept I6.out (w' := w6.alloc (.cells #[.int .i64 7, .slice A8 n2 c8] 25)) fun x hx hl => heap_alloc_old w6 _ hl
          have hs7 : w6.heap.size < (w6.alloc (.cells #[.int .i64 7, .slice A8 n2 c8] 25)).heap.size := by rw [World.size_alloc]; omega
          obtain ⟨W7, hW7⟩ : ∃ W, W = w6.alloc (.cells #[.int .i64 7, .slice A8 n2 c8] 25) := ⟨_, rfl⟩
          rw [← hW7] at HB hq22 hsl7 hs7 ⊢
          have hge : b8 < w6.heap.size := Nat.lt_of_lt_of_le (obj_lt HR.out.1) HB6.out.size
          have hq8 := (HB.out.block b8 (obj_lt HR.out.1)).trans HR.out.1
          obtain ⟨g22, hg22⟩ : ∃ g, g = w6.heap.size := ⟨_, rfl⟩
          rw [← hg22] at hq22 hs7 hge ⊢
          obtain ⟨y0, y1, y2⟩ := cells2 hq22
          obtain ⟨x0, x1, x2⟩ := cells2 hq8
          have f0 := x2 0
          have f1 := x2 1
          have f2 := y2 0
          have f3 := y2 1
          have HF := Lib.hid (And.intro hq8 (And.intro hsl7 (And.intro hge (And.intro hs7 hg22))))
          clear x2 y2 hq8 hq22 hsl7 hs7 hge hW7 hg22
          go_wp2_with fail
          go_roundw
          case rel =>
            refine ⟨i + 1, A8, c8, ?_, Or.inl ?_, by go_num, ?_, ?_, ?_, ?_⟩
            · have h1 : i + 1 ≤ (i + 1) * k := Nat.le_mul_of_pos_right _ (by have := HK.out; omega)
              have := HX.out.2.2; have := HML.out; omega
            · rw [HML.out]; exact HX.out.2.2
            · rw [← HX.out.1, ← HX.out.2.1]
            · rw [← HX.out.1, ← HX.out.2.1]; exact put2 HF.out.1 _ _
            · rw [← HX.out.1, ← HX.out.2.1]
              have hlt := obj_lt HR.out.1
              have hp := HBP.out.size
              have h5 := HF.out.2.2.2.2
              have h6 := HF.out.2.2.2.1
              exact (SlT.kept HF.out.2.1 fun x hx _ => put2_other _ _ _ _ x (by have := hx.1; omega)).mono fun x hx => ⟨by have := hx.2; show x < (World.setCell _ _ _).heap.size; rw [World.size_setCell, World.size_setCell]; omega, by have := hx.1; omega⟩
            · exact ((HR.out.2.2.trans (HB.out.mono HR.out.2.2.size)).setCell (by show w.heap.size ≤ b8; rw [HB8.out]; exact Nat.le_refl _) _).setCell (by show w.heap.size ≤ b8; rw [HB8.out]; exact Nat.le_refl _) _
          case measure => simp [intOf]; omega
        · -- the last piece
          have hap := HE.out.2.2.2.2.1 hlast
          rw [hlast] at CP CT
          simp only [if_true, hap] at CP
          have HTL := Lib.hid HML.out.symm
          simp only [HTL.out] at CP
          clear hlast hap
          go_wp2_with (first
            | (go_at_call 10; go_must (refine (CT.out _ HB.out).mono ?_; rintro y w5 ⟨A5, c5, rfl, hi5, hb5⟩; have HB := Lib.hid (HB.out.trans (hb5.mono HB.out.size)); have I5 := Lib.hid hi5; obtain ⟨y0, y1, y2⟩ := cells2 ((HB.out.block b8 (obj_lt HR.out.1)).trans HR.out.1); clear hi5 hb5))
            | (go_at_call 9; go_must (refine (sureK C _).mono ?_; rintro y w7 ⟨rfl, hb7⟩; have HB7 := Lib.hid ((HB.out.alloc HB.out.size _).trans (hb7.mono (HB.out.alloc HB.out.size _).size)); clear hb7))
            | (go_at_call 7; go_must (refine (CP.out _ _ _ HB.out I5.out).mono ?_; rintro y w6 ⟨A8, c8, A9, c9, rfl, -, hi6, hb6⟩; have HB := Lib.hid (HB.out.trans (hb6.mono HB.out.size)); have v1 := fun bl => conv_bytes ((Bys.below hi6 (below_alloc w6 bl)).sl_); have v2 := fun bl => conv_bytes ((HH.out.1.below (HR.out.2.2.trans ((HB.out.alloc HB.out.size bl).mono HR.out.2.2.size))).sl_); clear hi6 hb6)))
          go_ret
          exact ⟨rfl, HR.out.2.2.trans (HB7.out.mono HR.out.2.2.size)⟩

end Go.Proofs.Ytfdccdjfbdmblaa.pk
