/-
  The law EntryCompacts: walked.
-/
import Derived.Test.YtlngcfaadfkbnaaDoorSureG
import Derived.Test.YtlngcfaadfkbnaaDoorSame
import Derived.Test.YtlngcfaadfkbnaaDoorNum
namespace Go.Proofs.YtlngcfaadfkbnaaDoor.pk
open Go Go.RowKit
set_option maxRecDepth 100000

theorem er_ev (k : Nat) : er k = ev k := rfl
theorem small_more {k d k' d' : Nat} {l : List En} (h : SmallE k d l) (h1 : k ≤ k') (h2 : d ≤ d') : SmallE k' d' l := ⟨Nat.le_trans h.1 h1, fun e he => Nat.le_trans (h.2 e he) h2⟩
theorem small_drop {k d : Nat} {l : List En} (h : SmallE k d l) (j : Nat) : SmallE k d (l.drop j) := ⟨by rw [List.length_drop]; have := h.1; omega, fun e he => h.2 e (List.mem_of_mem_drop he)⟩
theorem compactE_small {k d : Nat} {l : Lg} (h : SmallE k d l.l) (i : Int) : SmallE k d (compactE l i).1.l := by
  unfold compactE
  split
  · exact small_drop h _
  · exact ⟨Nat.zero_le _, fun e he => by cases he⟩
theorem compactE_code (l : Lg) (i : Int) : (compactE l i).2 = 0 ∨ (compactE l i).2 = 1 ∨ (compactE l i).2 = 8 ∨ (compactE l i).2 = 22 := by
  unfold compactE
  have := termE_small l i
  split
  · exact Or.inl rfl
  · exact this

set_option maxHeartbeats 16000000 in
theorem compacts_true (C : ConG) (l : Lg) (A : Option Addr) (n c : Nat) (i : Int) (w : World) (hs : Std w) (hG : StdG w) (h : Ents w (.slice A n c) l.l) (hi : inI l.base) (ht : inI l.term) (hk : inI i) (hd : ∀ e ∈ l.l, e.data.length ≤ 140737488355328) :
    Calls Tryd.prog 7 #[.agg #[.int .i64 l.base, .int .i64 l.term, .slice A n c], .int .i64 i] w fun y w' => y = .returned (.bool true) ∧ Below w.heap.size w w' := by
  obtain ⟨W1, g, hW1, hg, hb1, hq, hsz⟩ := one_box w (.cells #[.int .i64 l.base, .int .i64 l.term, .slice A n c] 24)
  have HW := Lib.hid (And.intro hW1 hg)
  have HE := Lib.hid (And.intro hb1 hq)
  have hcells : ∀ W, Below W1.heap.size W1 W → W.cell? ⟨g, 0, none⟩ = some (.int .i64 l.base) ∧ W.cell? ⟨g, 1, none⟩ = some (.int .i64 l.term) ∧ W.cell? ⟨g, 2, none⟩ = some (.slice A n c) := fun W hW => cells3 ((hW.block g (obj_lt hq)).trans hq)
  have HCL := Lib.hid hcells
  obtain ⟨x0, x1, x2⟩ := hcells W1 (Below.refl _ _)
  obtain ⟨lo, hlo⟩ : ∃ b, b = longE l.l := ⟨_, rfl⟩
  have HL := Lib.hid (long_any A n c l.l W1 (h.below hb1) hd lo hlo)
  cases lo with
  | true =>
    clear h hi ht hk hd hlo hW1 hg hb1 hq hsz hcells
    go_enter Tryd.func7, Tryd.ntmps7
    go_upto_region 1 with fail
    rw [← HW.out.1, ← HW.out.2]
    go_wp2_with (first
      | (go_at_call 8; go_must (refine HL.out.mono ?_; rintro y w1 ⟨rfl, rfl⟩))
      | (go_at_call 9; go_must (refine (sureG C _).mono ?_; rintro y w2 ⟨rfl, hb2⟩; have HB2 := Lib.hid (HE.out.1.trans (hb2.mono HE.out.1.size)); clear hb2)))
    go_ret
    exact ⟨rfl, HB2.out⟩
  | false =>
    have hsm := longE_small hlo.symm
    have HG := Lib.hid (giveLog_any l A n c W1 (h.below hb1) (small_more hsm (by omega) (by omega)))
    obtain ⟨r, k, hrk⟩ : ∃ r k, compactE l i = (r, k) := ⟨_, _, rfl⟩
    obtain ⟨q, hq'⟩ : ∃ q, q = r.l.length := ⟨_, rfl⟩
    have HCo := Lib.hid fun A1 c1 W (hW : Ents W (.slice A1 n c1) l.l) => C.gCompact l A1 n c1 i W hW hi ht (small_more hsm (by omega) (by omega)) hk (r, k) hrk.symm q hq'
    have HRo := Lib.hid fun W (hW : Below w.heap.size w W) => Compact_any l A n c i W (h.below hW) hi ht hk (r, k) hrk.symm
    have hsr : SmallE 1000 100000 r.l := by
      have := compactE_small (small_more hsm (k' := 1000) (d' := 100000) (by omega) (by omega)) i
      rw [hrk] at this
      exact this
    have HSa := Lib.hid fun A1 c1 A2 c2 W (hg0 : StdG W) (h1 : Ents W (.slice A1 q c1) r.l) (h2 : Ents W (.slice A2 q c2) r.l) => sameLog_any C r A1 q c1 r A2 q c2 W hg0 h1 h2 hsr (small_more hsr (by omega) (by omega)) true (sameE_refl r).symm
    have HNu := Lib.hid fun W (hW : Below w.heap.size w W) => num_any k W (hs.below hs.size hW)
    have hkk : ((k : Int) == (k : Int)) = true := by simp
    have hk2 : (k : Int) ≤ 100 := by have := compactE_code l i; rw [hrk] at this; simp only at this; omega
    simp only [er_ev, ← hq'] at HCo HRo
    clear h hi ht hk hd hlo hW1 hg hb1 hq hsz hcells hsm hrk hsr hq'
    go_enter Tryd.func7, Tryd.ntmps7
    go_upto_region 1 with fail
    rw [← HW.out.1, ← HW.out.2]
    go_upto_region 4 with (first
      | (go_at_call 8; go_must (refine HL.out.mono ?_; rintro y w1 ⟨rfl, rfl⟩))
      | (go_at_call 10; go_must (refine HG.out.mono ?_; rintro y w2 ⟨A1, c1, rfl, hi2, hb2⟩; have H2 := Lib.hid (And.intro hi2 hb2); clear hi2 hb2))
      | (go_at_call 28; go_must (refine (HCo.out _ _ _ H2.out.1).mono ?_; rintro y w4 ⟨A4, c4, rfl, hi4, hb4⟩; have H4 := Lib.hid (And.intro hi4 (H2.out.2.trans (hb4.mono H2.out.2.size))); clear hi4 hb4)))
    have hqx := heap_alloc_new w4 (.cells #[.int .i64 r.base, .int .i64 r.term, .slice A4 q c4] 29)
    have hb3 := below_alloc w4 (.cells #[.int .i64 r.base, .int .i64 r.term, .slice A4 q c4] 29)
    obtain ⟨W3, hW3⟩ : ∃ W, W = w4.alloc (.cells #[.int .i64 r.base, .int .i64 r.term, .slice A4 q c4] 29) := ⟨_, rfl⟩
    obtain ⟨gx, hgx⟩ : ∃ g, g = w4.heap.size := ⟨_, rfl⟩
    rw [← hW3] at hqx hb3 ⊢
    rw [← hgx] at hqx ⊢
    have H3 := Lib.hid (And.intro hqx (And.intro (H4.out.1.below hb3) (H4.out.2.trans (hb3.mono H4.out.2.size))))
    clear x0 x1 x2 hW3 hgx hb3 hqx
    obtain ⟨x0, x1, x2⟩ := HCL.out W3 H3.out.2.2
    go_upto_region 5 with (go_at_call 29; go_must (refine (HRo.out _ (HE.out.1.trans (H3.out.2.2.mono HE.out.1.size))).mono ?_; rintro y w5 ⟨A5, c5, rfl, hi5, hb5⟩; have H5 := Lib.hid (And.intro hi5 hb5); clear hi5 hb5))
    have hqy := heap_alloc_new w5 (.cells #[.int .i64 r.base, .int .i64 r.term, .slice A5 q c5] 24)
    have hb6 := below_alloc w5 (.cells #[.int .i64 r.base, .int .i64 r.term, .slice A5 q c5] 24)
    have hb36 : Below W3.heap.size W3 (w5.alloc (.cells #[.int .i64 r.base, .int .i64 r.term, .slice A5 q c5] 24)) := H5.out.2.trans (hb6.mono H5.out.2.size)
    obtain ⟨W6, hW6⟩ : ∃ W, W = w5.alloc (.cells #[.int .i64 r.base, .int .i64 r.term, .slice A5 q c5] 24) := ⟨_, rfl⟩
    obtain ⟨gy, hgy⟩ : ∃ g, g = w5.heap.size := ⟨_, rfl⟩
    rw [← hW6] at hqy hb6 hb36 ⊢
    rw [← hgy] at hqy ⊢
    have H6 := Lib.hid (And.intro (H3.out.2.1.below hb36) (And.intro (H5.out.1.below hb6) (HE.out.1.trans ((H3.out.2.2.trans (hb36.mono H3.out.2.2.size)).mono HE.out.1.size))))
    clear x0 x1 x2 hW6 hgy hb6
    obtain ⟨y0, y1, y2⟩ := cells3 hqy
    obtain ⟨x0, x1, x2⟩ := cells3 ((hb36.block gx (obj_lt H3.out.1)).trans H3.out.1)
    clear hqy hb36
    go_wp2_with (first
      | (go_at_call 24; go_must (refine (HSa.out _ _ _ _ _ (hG.below H6.out.2.2) H6.out.1 H6.out.2.1).mono ?_; rintro y w7 ⟨rfl, hb7⟩; have H7 := Lib.hid (H6.out.2.2.trans (hb7.mono H6.out.2.2.size)); clear hb7))
      | (go_at_call 19; go_must (refine (HNu.out _ H7.out).mono ?_; rintro y w8 ⟨rfl, hb8⟩; have H8 := Lib.hid (H7.out.trans (hb8.mono H7.out.size)); clear hb8))
      | (go_at_call 9; go_must (refine (sureG C _).mono ?_; rintro y w9 ⟨rfl, hb9⟩; have H9 := Lib.hid (H8.out.trans (hb9.mono H8.out.size)); clear hb9)))
    go_ret
    exact ⟨rfl, H9.out⟩

end Go.Proofs.YtlngcfaadfkbnaaDoor.pk
