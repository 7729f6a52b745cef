/-
  The program's own members: how far somebody is; Agreed.
-/
import Derived.Test.YtgnonfnipifbiaaDoorHc5
namespace Go.Proofs.YtgnonfnipifbiaaDoor.pk
open Go Go.RowKit
set_option maxRecDepth 100000

set_option maxHeartbeats 4000000 in
theorem furthest_own (A : Option Addr) (m c : Nat) (l : List (Int × Int)) (who : Int) (w : World) (h : Marks w (.slice A m c) l) (n : Int) (hn : n = farB who 0 l) :
    Calls Tryd.prog 26 #[.slice A m c, .int .i64 who] w fun y w' => y = .returned (.int .i64 n) ∧ Below w.heap.size w w' := by
  obtain ⟨hm, hmc, hcm, hat⟩ := h.at_
  have im : (m : Int) ≤ 9223372036854775807 := by omega
  have HM := Lib.hid (And.intro hm (And.intro hat hn))
  clear h hm hmc hcm hat hn
  go_enter Tryd.func26, Tryd.ntmps26
  go_wp2_with fail
  go_loopw [5, 10] (fun nn ii wr => ∃ k : Nat, k ≤ m ∧ ii = .int .i64 (k : Int) ∧ nn = .int .i64 (farK l who k) ∧ Below w.heap.size w wr) (fun _ ii _ => m - (intOf ii).toNat)
  case atStart => exact ⟨0, Nat.zero_le _, rfl, rfl, Below.refl _ _⟩
  case round =>
    obtain ⟨k, hk, rfl, rfl, hbw⟩ := hrel
    have HB := Lib.hid hbw
    by_cases hlt : k < m
    · obtain ⟨b, off, rfl, hb, hc⟩ := HM.out.2.1 (by omega)
      obtain ⟨q1, q2⟩ := hc k hlt
      have g1 := (hbw.cell (p := ⟨b, off + k * 2, none⟩) hb).trans q1
      have g2 := (hbw.cell (p := ⟨b, off + k * 2 + 1, none⟩) hb).trans q2
      have ik : (k : Int) < (m : Int) := by omega
      have ik0 : (0 : Int) ≤ (k : Int) := by omega
      have hnx := farK_next (l := l) (who := who) (k := k) (by have := HM.out.1; omega)
      obtain ⟨x, hx⟩ : ∃ x, x = l.getD k (0, 0) := ⟨_, rfl⟩
      obtain ⟨d, hd⟩ : ∃ d, d = farK l who k := ⟨_, rfl⟩
      rw [← hx] at g1 g2 hnx
      rw [← hd] at hnx ⊢
      have HF := Lib.hid (hbw.trans ((below_alloc wr (.cells #[.int .i64 x.1, .int .i64 x.2] 41)).mono hbw.size))
      clear hx hd hb hc q1 q2 hbw
      by_cases hw : x.1 = who
      · rw [if_pos hw] at hnx
        have HN := Lib.hid hnx
        clear hnx
        go_wp2_with fail
        go_roundw
        case rel => exact ⟨k + 1, by omega, by go_num, by rw [HN.out], by have h := HF.out; rw [hw] at h; exact h⟩
        case measure => simp [intOf]; omega
      · rw [if_neg hw] at hnx
        have HN := Lib.hid hnx
        clear hnx
        go_wp2_with fail
        go_roundw
        case rel => exact ⟨k + 1, by omega, by go_num, by rw [HN.out], HF.out⟩
        case measure => simp [intOf]; omega
    · obtain rfl : k = m := by omega
      have ik : ¬ (k : Int) < (k : Int) := by omega
      have hall := farK_all (l := l) (who := who) (k := k) (by have := HM.out.1; omega)
      rw [hall, ← HM.out.2.2]
      clear hall hbw
      go_wp2_with fail
      go_ret
      exact ⟨rfl, HB.out⟩

theorem own_some {w : World} {B e sz n : Nat} {v : Value} {xs : List Value} (h : w.ownsRow B e sz v n xs) (h0 : 0 < n) : ∃ g k, v = .slice (some ⟨g, 0, none⟩) n k := by
  rcases h.2 with ⟨_, e⟩ | ⟨g, cap, cur, e, _⟩
  · omega
  · exact ⟨g, cap, e⟩
set_option maxHeartbeats 4000000 in
theorem Agreed_own (A : Option Addr) (m c : Nat) (zs : List Int) (A' : Option Addr) (m' c' : Nat) (l : List (Int × Int)) (w : World) (h : Ints w (.slice A m c) zs) (h' : Marks w (.slice A' m' c') l) (r : Int) (hr : r = agreedC zs l) :
    Calls Tryd.prog 17 #[.slice A m c, .slice A' m' c'] w fun y w' => y = .returned (.int .i64 r) ∧ Below w.heap.size w w' := by
  have C := Lib.hid (may_own A m c zs w h _ rfl)
  cases hm : mayC zs with
  | false =>
    rw [hm] at C
    rw [agreed_not hm] at hr
    subst hr
    clear h h' hm
    go_enter Tryd.func17, Tryd.ntmps17
    go_wp2_with (go_at_call 18; go_must (refine C.out.mono ?_; rintro y w1 ⟨rfl, rfl⟩))
    go_ret
    exact ⟨rfl, Below.refl _ _⟩
  | true =>
    rw [hm] at C
    have h7 := ((mayC_iff zs).1 hm).1
    have hmm := h.len_le
    obtain ⟨b, off, rfl, hbb, hcc⟩ := h.at_.2.2.2 (by omega)
    have HM := Lib.hid (And.intro hmm (And.intro hm (And.intro hr (And.intro h' (And.intro hbb (And.intro hcc h7))))))
    have im : (m : Int) ≤ 7 := by omega
    have im0 : (0 : Int) < (m : Int) := by omega
    clear h h' hm hmm hr h7 hbb hcc
    go_enter Tryd.func17, Tryd.ntmps17
    go_wp2_with (go_at_call 18; go_must (refine C.out.mono ?_; rintro y w1 ⟨rfl, rfl⟩))
    go_loopw [5, 13] (fun v ii wr => ∃ k : Nat, k ≤ m ∧ ii = .int .i64 (k : Int) ∧ wr.ownsRow w.heap.size 3 1 v ((zs.take k).map fun x => farB x 0 l).length (((zs.take k).map fun x => farB x 0 l).map (Value.int .i64)) ∧ Below w.heap.size w wr) (fun _ ii _ => m - (intOf ii).toNat)
    case atStart => exact ⟨0, Nat.zero_le _, rfl, by rw [List.take_zero]; exact World.ownsRow_nil _ _ _ _, Below.refl _ _⟩
    case round =>
      obtain ⟨k, hk, rfl, ho, hbw⟩ := hrel
      by_cases hlt : k < m
      · have g1 := (hbw.cell (p := ⟨b, off + k, none⟩) HM.out.2.2.2.2.1).trans (HM.out.2.2.2.2.2.1 k hlt)
        have ik : (k : Int) < (m : Int) := by omega
        have ik0 : (0 : Int) ≤ (k : Int) := by omega
        have hnx := take_nextI (c := zs) (k := k) (by have := HM.out.1; omega)
        obtain ⟨x, hx⟩ : ∃ x, x = zs.getD k 0 := ⟨_, rfl⟩
        rw [← hx] at g1 hnx
        have FU := Lib.hid (furthest_own A' m' c' l x wr (HM.out.2.2.2.1.below hbw) _ rfl)
        have HO := Lib.hid (And.intro ho (And.intro hbw hnx))
        obtain ⟨z, hz⟩ : ∃ z, z = farB x 0 l := ⟨_, rfl⟩
        rw [← hz] at FU
        obtain ⟨L, hL⟩ : ∃ L, L = (zs.take k).map fun x => farB x 0 l := ⟨_, rfl⟩
        rw [← hL] at HO
        have HL := Lib.hid (And.intro hL (And.intro hz (show L.length ≤ 7 by rw [hL, List.length_map, List.length_take]; have := HM.out.2.2.2.2.2.2; omega)))
        clear ho hbw hnx hx hz hL
        go_wp2_with (first
          | (go_at_call 26; go_must (refine FU.out.mono ?_; rintro y w2 ⟨rfl, hb2⟩; have HB2 := Lib.hid hb2; clear hb2))
          | (at_builtin; go_must (refine wpList_pushI (B := w.heap.size) (zs := L) ((own_kept HO.out.1 HB2.out).alloc _) rfl _ _ rfl rfl w2.heap.size rfl z (heap_alloc_new w2 _) ?c1 ?c2 ?c3)))
        case c1 => have := HL.out.2.2; omega
        case c2 => have := HO.out.2.1.size; have := HB2.out.size; rw [World.size_alloc]; omega
        case c3 =>
          intro v' w3 ho3 hg3
          have hb3 := HO.out.2.1.trans (HB2.out.mono HO.out.2.1.size)
          have hb4 := (hb3.alloc hb3.size (.cells #[.int .i64 z] 3)).grown hg3 (by have := hb3.size; rw [World.size_alloc]; omega) (fun q hq => (HO.out.1.lt q hq).1)
          have e : (zs.take (k + 1)).map (fun x => farB x 0 l) = L ++ [z] := by rw [HO.out.2.2, List.map_append, HL.out.1, HL.out.2.1]; rfl
          have HF := Lib.hid (And.intro ho3 (And.intro hb4 e))
          clear ho3 hg3 hb3 hb4 e
          go_wp2_with fail
          go_roundw
          case rel => exact ⟨k + 1, by omega, by go_num, by rw [HF.out.2.2, List.length_append, List.map_append]; exact HF.out.1, HF.out.2.1⟩
          case measure => simp [intOf]; omega
      · obtain rfl : k = m := by omega
        have ik : ¬ (k : Int) < (k : Int) := by omega
        have hall : zs.take k = zs := List.take_of_length_le (by have := HM.out.1; omega)
        rw [hall] at ho
        obtain ⟨L, hL⟩ : ∃ L, L = zs.map fun x => farB x 0 l := ⟨_, rfl⟩
        have hLl : L.length = k := by rw [hL, List.length_map]; exact HM.out.1.symm
        rw [← hL, hLl] at ho
        obtain ⟨g, kc, hv⟩ := own_some ho (by have := HM.out.1; have := HM.out.2.2.2.2.2.2; omega)
        subst hv
        have HS := Lib.hid (SortI_own w.heap.size g k kc L wr ho hLl.symm (by omega))
        have HB := Lib.hid (And.intro hbw (And.intro hL hLl))
        have q0 : ((k : Int) - 1).tdiv 2 = (((k - 1) / 2 : Nat) : Int) := by rw [Int.tdiv_eq_ediv_of_nonneg (by omega)]; omega
        have q1 : (((k - 1) / 2 : Nat) : Int) < (k : Int) := by omega
        have q2 : (0 : Int) ≤ (((k - 1) / 2 : Nat) : Int) := by omega
        obtain ⟨j, hj⟩ : ∃ j, j = (k - 1) / 2 := ⟨_, rfl⟩
        rw [← hj] at q0 q1 q2
        have HJ := Lib.hid hj
        clear ho hbw hL hLl hall hj
        go_wp2_with (go_at_call 27; go_must (refine HS.out.mono ?_; rintro y w2 ⟨rfl, ts, hp, hs, ho2, hb2⟩; have hcell : w2.cell? ⟨g, j, none⟩ = some (.int .i64 r) := (by
          have hj1 := HJ.out
          have hk1 := HB.out.2.2
          have hk2 := HM.out.1
          have hk3 := HM.out.2.2.2.2.2.2
          have hl : ts.length = k := hp.length_eq.trans hk1
          have ej : (ts.length - 1) / 2 = j := by rw [hl]; exact hj1.symm
          rw [ho2.cellAt j (by omega), List.getElem?_map, HM.out.2.2.1, agreed_med (S := ts) HM.out.2.1 (by rw [← HB.out.2.1]; exact hp) hs, ej]
          simp [List.getD, List.getElem?_eq_getElem (show j < ts.length by omega)]); have H2 := Lib.hid (And.intro hcell hb2); clear hp hs ho2 hb2))
        go_ret
        exact ⟨rfl, HB.out.1.trans H2.out.2⟩

end Go.Proofs.YtgnonfnipifbiaaDoor.pk
