/-
  The package pack's reader: texts and bytes, the next letter, what is left, the first error; each of the calls in one statement over the reader's state.
-/
import Derived.Test.YteblpfnmcbehmaaDoorRd
namespace Go.Proofs.YteblpfnmcbehmaaDoor.pk
open Go Go.RowKit
set_option maxRecDepth 100000

theorem Sl.grown {w w' : World} {B p : Nat} {v : Value} {bs : List UInt8} (h : Sl w B v bs) (hg : w.grownBy w' (some p)) (hB : B ≤ p) (hs : B ≤ w.heap.size) : Sl w' B v bs :=
  h.keep fun q hq => World.cell?_of_block (hg.block q.block (by omega) (fun e => by injection e with e; omega))

theorem Text_stop (p k : Nat) (most : Int) (v : Value) (bs : List UInt8) (w : World) (h : RD w p v bs k) (hk : k ≠ 0) :
    Calls Tryd.prog 27 #[.pointer (some ⟨p, 0, none⟩), .int .i64 most] w fun x w' => x = .returned (.string ⟨#[]⟩) ∧ w = w' := by
  have c1 := Lib.hid (stopped_yes p k v bs w h hk)
  clear h hk
  go_enter Tryd.func27, Tryd.ntmps27
  go_wp2_with (go_at_call 34; refine c1.out.mono ?_; rintro x w' ⟨rfl, rfl⟩)
  go_ret
  exact ⟨rfl, rfl⟩
theorem Text_ok (p : Nat) (most : Int) (v : Value) (bs rest m : List UInt8) (w : World) (hs : Std w) (hm : most ≤ 9223372036854775807) (h : RD w p v bs 0) (hr : rdBytes 116 most bs = (0, m, rest)) :
    Calls Tryd.prog 27 #[.pointer (some ⟨p, 0, none⟩), .int .i64 most] w fun x w' => ∃ v', x = .returned (.string ⟨m.toArray⟩) ∧ RD w' p v' rest 0 ∧ w.grownBy w' (some p) := by
  have hc0 := h.c0
  have hlt := h.lt
  have H := Lib.hid h
  have c1 := Lib.hid (stopped_no p v bs w h)
  have h2 := h.2
  have hB := Nat.le_of_lt hlt
  clear h
  obtain ⟨A, c, rfl, hx⟩ := h2
  have h2 : Sl w p (.slice A bs.length c) bs := ⟨A, c, rfl, hx⟩
  have c2 := Lib.hid (takeBytes_ok A bs.length c 116 most bs m rest w hs hm hB h2 hr)
  clear hr hx h2 hm
  generalize hS : (⟨m.toArray⟩ : ByteArray) = sm
  have HS := Lib.hid hS
  clear hS
  go_enter Tryd.func27, Tryd.ntmps27
  go_wp2_with (first
    | (go_at_call 34; refine c1.out.mono ?_; rintro x w' ⟨rfl, rfl⟩)
    | (go_at_call 46; refine c2.out.mono ?_; rintro x w1 ⟨A1, k1, A2, k2, rfl, h3, h5, hb⟩; have H3 := Lib.hid h3; have H5 := Lib.hid h5; have HB := Lib.hid hb; clear h3 h5 hb hc0)
    | (go_at_call 36; refine (settle_ok p _ _ _ _ bs rest _ (H.out.below HB.out hlt) H5.out).mono ?_; rintro x w2 ⟨rfl, h4, hg⟩; have H4 := Lib.hid h4; have HG := Lib.hid hg; clear h4 hg; have hcv := conv_bytes (H3.out.grown HG.out (Nat.le_refl _) (Nat.le_trans hB HB.out.size)); rw [HS.out] at hcv))
  go_ret
  exact ⟨_, rfl, H4.out, grown_trans (grown_below HB.out _) HG.out⟩
theorem Text_err (p k : Nat) (most : Int) (v : Value) (bs rest m : List UInt8) (w : World) (hs : Std w) (hm : most ≤ 9223372036854775807) (h : RD w p v bs 0) (hr : rdBytes 116 most bs = (k, m, rest)) (hk : k ≠ 0) :
    Calls Tryd.prog 27 #[.pointer (some ⟨p, 0, none⟩), .int .i64 most] w fun x w' => x = .returned (.string ⟨#[]⟩) ∧ RD w' p v bs k ∧ w.grownBy w' (some p) := by
  have hc0 := h.c0
  have hlt := h.lt
  have H := Lib.hid h
  have HK := Lib.hid hk
  have c1 := Lib.hid (stopped_no p v bs w h)
  have h2 := h.2
  have hB := Nat.le_of_lt hlt
  clear h
  obtain ⟨A, c, rfl, hx⟩ := h2
  have h2 : Sl w p (.slice A bs.length c) bs := ⟨A, c, rfl, hx⟩
  have c2 := Lib.hid (takeBytes_err A bs.length c k 116 most bs m rest w hs hm hB h2 hr hk)
  clear hr hx h2 hm hk
  go_enter Tryd.func27, Tryd.ntmps27
  go_wp2_with (first
    | (go_at_call 34; refine c1.out.mono ?_; rintro x w' ⟨rfl, rfl⟩)
    | (go_at_call 46; refine c2.out.mono ?_; rintro x w1 ⟨rfl, hb⟩; have HB := Lib.hid hb; clear hb hc0)
    | (go_at_call 36; refine (settle_err p k _ _ bs _ (H.out.below HB.out hlt) HK.out).mono ?_; rintro x w2 ⟨rfl, h4, hg⟩; have H4 := Lib.hid h4; have HG := Lib.hid hg; clear h4 hg; have hcv := conv_bytes (Sl.nil_ w2 0)))
  go_ret
  exact ⟨rfl, H4.out, grown_trans (grown_below HB.out _) HG.out⟩

theorem Bytes_stop (p k : Nat) (most : Int) (v : Value) (bs : List UInt8) (w : World) (h : RD w p v bs k) (hk : k ≠ 0) :
    Calls Tryd.prog 28 #[.pointer (some ⟨p, 0, none⟩), .int .i64 most] w fun x w' => x = .returned (.slice none 0 0) ∧ w = w' := by
  have c1 := Lib.hid (stopped_yes p k v bs w h hk)
  clear h hk
  go_enter Tryd.func28, Tryd.ntmps28
  go_wp2_with (go_at_call 34; refine c1.out.mono ?_; rintro x w' ⟨rfl, rfl⟩)
  go_ret
  exact ⟨rfl, rfl⟩
theorem Bytes_ok (p : Nat) (most : Int) (v : Value) (bs rest m : List UInt8) (w : World) (hs : Std w) (hm : most ≤ 9223372036854775807) (h : RD w p v bs 0) (hr : rdBytes 98 most bs = (0, m, rest)) (hl : m.length ≤ 140737488355328) :
    Calls Tryd.prog 28 #[.pointer (some ⟨p, 0, none⟩), .int .i64 most] w fun x w' => ∃ v' u, x = .returned u ∧ Sl w' w'.heap.size u m ∧ RD w' p v' rest 0 ∧ w.grownBy w' (some p) := by
  have hc0 := h.c0
  have hlt := h.lt
  have H := Lib.hid h
  have c1 := Lib.hid (stopped_no p v bs w h)
  have h2 := h.2
  have hB := Nat.le_of_lt hlt
  clear h
  obtain ⟨A, c, rfl, hx⟩ := h2
  have h2 : Sl w p (.slice A bs.length c) bs := ⟨A, c, rfl, hx⟩
  have c2 := Lib.hid (takeBytes_ok A bs.length c 98 most bs m rest w hs hm hB h2 hr)
  clear hr hx h2 hm
  go_enter Tryd.func28, Tryd.ntmps28
  go_wp2_with (first
    | (go_at_call 34; refine c1.out.mono ?_; rintro x w' ⟨rfl, rfl⟩)
    | (go_at_call 46; refine c2.out.mono ?_; rintro x w1 ⟨A1, k1, A2, k2, rfl, h3, h5, hb⟩; have H3 := Lib.hid h3; have H5 := Lib.hid h5; have HB := Lib.hid hb; clear h3 h5 hb hc0)
    | (go_at_call 36; refine (settle_ok p _ _ _ _ bs rest _ (H.out.below HB.out hlt) H5.out).mono ?_; rintro x w2 ⟨rfl, h4, hg⟩; have H4 := Lib.hid h4; have HG := Lib.hid hg; clear h4 hg)
    | (go_at_call 33; refine (copied_any _ _ _ m _ _ (H3.out.grown HG.out (Nat.le_refl _) (Nat.le_trans hB HB.out.size)) hl).mono ?_; rintro x w3 ⟨u, rfl, hown, hb3⟩; have HO := Lib.hid hown; have HB3 := Lib.hid hb3; clear hown hb3))
  go_ret
  exact ⟨_, u, rfl, Sl.of_own HO.out _ (fun g hg => (HO.out.lt g hg).2), H4.out.below HB3.out H4.out.lt, grown_trans (grown_below HB.out _) (grown_trans HG.out (grown_below HB3.out _))⟩
theorem Bytes_err (p k : Nat) (most : Int) (v : Value) (bs rest m : List UInt8) (w : World) (hs : Std w) (hm : most ≤ 9223372036854775807) (h : RD w p v bs 0) (hr : rdBytes 98 most bs = (k, m, rest)) (hk : k ≠ 0) :
    Calls Tryd.prog 28 #[.pointer (some ⟨p, 0, none⟩), .int .i64 most] w fun x w' => ∃ u, x = .returned u ∧ Sl w' w'.heap.size u [] ∧ RD w' p v bs k ∧ w.grownBy w' (some p) := by
  have hc0 := h.c0
  have hlt := h.lt
  have H := Lib.hid h
  have HK := Lib.hid hk
  have c1 := Lib.hid (stopped_no p v bs w h)
  have h2 := h.2
  have hB := Nat.le_of_lt hlt
  clear h
  obtain ⟨A, c, rfl, hx⟩ := h2
  have h2 : Sl w p (.slice A bs.length c) bs := ⟨A, c, rfl, hx⟩
  have c2 := Lib.hid (takeBytes_err A bs.length c k 98 most bs m rest w hs hm hB h2 hr hk)
  clear hr hx h2 hm hk
  go_enter Tryd.func28, Tryd.ntmps28
  go_wp2_with (first
    | (go_at_call 34; refine c1.out.mono ?_; rintro x w' ⟨rfl, rfl⟩)
    | (go_at_call 46; refine c2.out.mono ?_; rintro x w1 ⟨rfl, hb⟩; have HB := Lib.hid hb; clear hb hc0)
    | (go_at_call 36; refine (settle_err p k _ _ bs _ (H.out.below HB.out hlt) HK.out).mono ?_; rintro x w2 ⟨rfl, h4, hg⟩; have H4 := Lib.hid h4; have HG := Lib.hid hg; clear h4 hg)
    | (go_at_call 33; refine (copied_any _ _ _ [] _ 0 (Sl.nil_ _ _) (by simp)).mono ?_; rintro x w3 ⟨u, rfl, hown, hb3⟩; have HO := Lib.hid hown; have HB3 := Lib.hid hb3; clear hown hb3))
  go_ret
  exact ⟨u, rfl, Sl.of_own HO.out _ (fun g hg => (HO.out.lt g hg).2), H4.out.below HB3.out H4.out.lt, grown_trans (grown_below HB.out _) (grown_trans HG.out (grown_below HB3.out _))⟩

theorem Left_any (p k : Nat) (v : Value) (bs : List UInt8) (w : World) (h : RD w p v bs k) :
    Calls Tryd.prog 22 #[.pointer (some ⟨p, 0, none⟩)] w fun x w' => x = .returned (.int .i64 (bs.length : Int)) ∧ w = w' := by
  have hc0 := h.c0
  obtain ⟨A, c, rfl, _⟩ := h.2
  clear h
  go_enter Tryd.func22, Tryd.ntmps22
  go_wp2
  go_ret
  exact ⟨rfl, rfl⟩

theorem Done_err (p k : Nat) (v : Value) (bs : List UInt8) (w : World) (h : RD w p v bs k) (hk : k ≠ 0) :
    Calls Tryd.prog 20 #[.pointer (some ⟨p, 0, none⟩)] w fun x w' => x = .returned (.iface 79 (.int .i64 (k : Int))) ∧ w = w' := by
  have hc1 := h.c1
  rw [ev_ne hk] at hc1
  clear h hk
  go_enter Tryd.func20, Tryd.ntmps20
  go_wp2
  go_ret
  exact ⟨rfl, rfl⟩
theorem Done_left (p : Nat) (v : Value) (bs : List UInt8) (w : World) (h : RD w p v bs 0) (hb : bs ≠ []) :
    Calls Tryd.prog 20 #[.pointer (some ⟨p, 0, none⟩)] w fun x w' => x = .returned (.iface 79 (.int .i64 3)) ∧ w = w' := by
  have hc0 := h.c0
  have hc1 : w.cell? ⟨p, 1, none⟩ = some .nilIface := h.c1
  obtain ⟨A, c, rfl, _⟩ := h.2
  have hl : (0 : Int) < (bs.length : Int) := by have := List.length_pos_iff.2 hb; omega
  clear h hb
  go_enter Tryd.func20, Tryd.ntmps20
  go_wp2
  go_ret
  exact ⟨rfl, rfl⟩
theorem Done_none (p : Nat) (v : Value) (w : World) (h : RD w p v [] 0) :
    Calls Tryd.prog 20 #[.pointer (some ⟨p, 0, none⟩)] w fun x w' => x = .returned .nilIface ∧ w = w' := by
  have hc0 := h.c0
  have hc1 : w.cell? ⟨p, 1, none⟩ = some .nilIface := h.c1
  obtain ⟨A, c, rfl, _⟩ := h.2
  clear h
  go_enter Tryd.func20, Tryd.ntmps20
  go_wp2
  go_ret
  exact ⟨rfl, rfl⟩

/-- The error's number that Done tells. -/
def dn (s : List UInt8 × Nat) : Nat := if s.2 = 0 then (if s.1 = [] then 0 else 3) else s.2
theorem Done_any (p : Nat) (s : List UInt8 × Nat) (v : Value) (w : World) (h : RD w p v s.1 s.2) :
    Calls Tryd.prog 20 #[.pointer (some ⟨p, 0, none⟩)] w fun x w' => x = .returned (ev (dn s)) ∧ w = w' := by
  obtain ⟨bs, k⟩ := s
  by_cases hk : k = 0
  · subst hk
    by_cases hb : bs = []
    · subst hb
      refine (Done_none p v w h).mono ?_
      rintro x w' ⟨rfl, rfl⟩
      exact ⟨rfl, rfl⟩
    · refine (Done_left p v bs w h hb).mono ?_
      rintro x w' ⟨rfl, rfl⟩
      exact ⟨by unfold dn; rw [if_pos rfl, if_neg hb]; rfl, rfl⟩
  · refine (Done_err p k v bs w h hk).mono ?_
    rintro x w' ⟨rfl, rfl⟩
    exact ⟨by unfold dn; rw [if_neg hk, ev_ne hk], rfl⟩

/-! ### Each call in one statement. -/
theorem Uint_any (p most : Nat) (s : List UInt8 × Nat) (v : Value) (w : World) (hs : Std w) (h : RD w p v s.1 s.2) :
    Calls Tryd.prog 14 #[.pointer (some ⟨p, 0, none⟩), .int .u64 (most : Int)] w fun x w' => ∃ v', x = .returned (.int .u64 ((rUint most s).2 : Int)) ∧ RD w' p v' (rUint most s).1.1 (rUint most s).1.2 ∧ w.grownBy w' (some p) := by
  obtain ⟨bs, k⟩ := s
  unfold rUint
  by_cases hk : k = 0
  · subst hk
    rw [if_pos rfl]
    rcases hr : rdUint most bs with ⟨k1, m, rest⟩
    by_cases hk1 : k1 = 0
    · subst hk1
      simp only [if_pos]
      exact Uint_ok p most v bs rest m w hs h hr
    · simp only [if_neg hk1]
      refine (Uint_err p k1 most v bs rest m w hs h hr hk1).mono ?_
      rintro x w' ⟨rfl, h1, h2⟩
      exact ⟨v, rfl, h1, h2⟩
  · rw [if_neg hk]
    refine (Uint_stop p k most v bs w h hk).mono ?_
    rintro x w' ⟨rfl, rfl⟩
    exact ⟨v, rfl, h, World.grownBy.refl w _⟩
theorem Int_any (p : Nat) (s : List UInt8 × Nat) (v : Value) (w : World) (hs : Std w) (h : RD w p v s.1 s.2) :
    Calls Tryd.prog 15 #[.pointer (some ⟨p, 0, none⟩)] w fun x w' => ∃ v', x = .returned (.int .i64 (rInt s).2) ∧ RD w' p v' (rInt s).1.1 (rInt s).1.2 ∧ w.grownBy w' (some p) := by
  obtain ⟨bs, k⟩ := s
  unfold rInt
  by_cases hk : k = 0
  · subst hk
    rw [if_pos rfl]
    rcases hr : rdInt bs with ⟨k1, m, rest⟩
    by_cases hk1 : k1 = 0
    · subst hk1
      simp only [if_pos]
      exact Int_ok p v bs rest m w hs h hr
    · simp only [if_neg hk1]
      refine (Int_err p k1 v bs rest m w hs h hr hk1).mono ?_
      rintro x w' ⟨rfl, h1, h2⟩
      exact ⟨v, rfl, h1, h2⟩
  · rw [if_neg hk]
    refine (Int_stop p k v bs w h hk).mono ?_
    rintro x w' ⟨rfl, rfl⟩
    exact ⟨v, rfl, h, World.grownBy.refl w _⟩
theorem Bool_any (p : Nat) (s : List UInt8 × Nat) (v : Value) (w : World) (h : RD w p v s.1 s.2) :
    Calls Tryd.prog 26 #[.pointer (some ⟨p, 0, none⟩)] w fun x w' => ∃ v', x = .returned (.bool (rBool s).2) ∧ RD w' p v' (rBool s).1.1 (rBool s).1.2 ∧ w.grownBy w' (some p) := by
  obtain ⟨bs, k⟩ := s
  unfold rBool
  by_cases hk : k = 0
  · subst hk
    rw [if_pos rfl]
    rcases hr : rdBool bs with ⟨k1, m, rest⟩
    by_cases hk1 : k1 = 0
    · subst hk1
      simp only [if_pos]
      exact Bool_ok p v bs rest m w h hr
    · simp only [if_neg hk1]
      refine (Bool_err p k1 v bs rest m w h hr hk1).mono ?_
      rintro x w' ⟨rfl, h1, h2⟩
      exact ⟨v, rfl, h1, h2⟩
  · rw [if_neg hk]
    refine (Bool_stop p k v bs w h hk).mono ?_
    rintro x w' ⟨rfl, rfl⟩
    exact ⟨v, rfl, h, World.grownBy.refl w _⟩
theorem Text_any (p : Nat) (most : Int) (s : List UInt8 × Nat) (v : Value) (w : World) (hs : Std w) (hm : most ≤ 9223372036854775807) (h : RD w p v s.1 s.2) :
    Calls Tryd.prog 27 #[.pointer (some ⟨p, 0, none⟩), .int .i64 most] w fun x w' => ∃ v', x = .returned (.string ⟨(rBytes 116 most s).2.toArray⟩) ∧ RD w' p v' (rBytes 116 most s).1.1 (rBytes 116 most s).1.2 ∧ w.grownBy w' (some p) := by
  obtain ⟨bs, k⟩ := s
  unfold rBytes
  by_cases hk : k = 0
  · subst hk
    rw [if_pos rfl]
    rcases hr : rdBytes 116 most bs with ⟨k1, m, rest⟩
    by_cases hk1 : k1 = 0
    · subst hk1
      simp only [if_pos]
      exact Text_ok p most v bs rest m w hs hm h hr
    · simp only [if_neg hk1]
      refine (Text_err p k1 most v bs rest m w hs hm h hr hk1).mono ?_
      rintro x w' ⟨rfl, h1, h2⟩
      exact ⟨v, rfl, h1, h2⟩
  · rw [if_neg hk]
    refine (Text_stop p k most v bs w h hk).mono ?_
    rintro x w' ⟨rfl, rfl⟩
    exact ⟨v, rfl, h, World.grownBy.refl w _⟩
theorem Bytes_any (p : Nat) (most : Int) (s : List UInt8 × Nat) (v : Value) (w : World) (hs : Std w) (hm : most ≤ 9223372036854775807) (h : RD w p v s.1 s.2) (hl : s.1.length ≤ 140737488355328) :
    Calls Tryd.prog 28 #[.pointer (some ⟨p, 0, none⟩), .int .i64 most] w fun x w' => ∃ v' u, x = .returned u ∧ Sl w' w'.heap.size u (rBytes 98 most s).2 ∧ RD w' p v' (rBytes 98 most s).1.1 (rBytes 98 most s).1.2 ∧ w.grownBy w' (some p) := by
  obtain ⟨bs, k⟩ := s
  unfold rBytes
  by_cases hk : k = 0
  · subst hk
    rw [if_pos rfl]
    rcases hr : rdBytes 98 most bs with ⟨k1, m, rest⟩
    by_cases hk1 : k1 = 0
    · subst hk1
      simp only [if_pos]
      exact Bytes_ok p most v bs rest m w hs hm h hr (Nat.le_trans (rdBytes_len hr) hl)
    · simp only [if_neg hk1]
      refine (Bytes_err p k1 most v bs rest m w hs hm h hr hk1).mono ?_
      rintro x w' ⟨u, rfl, h0, h1, h2⟩
      exact ⟨v, u, rfl, h0, h1, h2⟩
  · rw [if_neg hk]
    refine (Bytes_stop p k most v bs w h hk).mono ?_
    rintro x w' ⟨rfl, rfl⟩
    exact ⟨v, _, rfl, Sl.nil_ _ _, h, World.grownBy.refl w _⟩

end Go.Proofs.YteblpfnmcbehmaaDoor.pk
