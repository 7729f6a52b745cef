import Derived.Test.YtncaefocijainaaGreatDoorG15
import Derived.Maps.AppendAt
import Derived.Lib.SliceRun
namespace Go.Proofs.YtncaefocijainaaGreatDoor.pk
open Go Go.RowKit
set_option maxRecDepth 100000
section
theorem CloneB_any (w : World) (T : Nat → Prop) (A : Option Addr) (n c : Nat) (bs : List UInt8) (h : SlT w T (.slice A n c) bs) (hb : bs.length ≤ 140737488355328) :
   Calls Tryz.prog 116 #[.slice A n c] w fun x w' => ∃ v, x = .returned v ∧ w'.ownsRow w.heap.size 5 1 v n (Lib.byteCells bs) ∧ Below w.heap.size w w' := by
 obtain ⟨i0, hi, hz0, hz1, hz2⟩ := info_parts info_u8
 obtain ⟨hn, -, -⟩ := h.sl.len
 have HN := jI hn
 rcases A with _ | a
 · have hb0 : bs = [] := by
     obtain ⟨A', c', hv, _, _, h3⟩ := h
     rcases h3 with h3 | ⟨b, off, hA, _⟩
     · exact h3
     · injection hv with e1 _ _; rw [hA] at e1; cases e1
   subst hb0
   simp at hn
   subst hn
   have hq := fun (w : World) (n' c' : Nat) => Lib.run_eql_slice_nil (P := Tryz.prog) w 33 5 none 0 c n' c' Tryz.underlying33
   clear h hi hz0 hz1 hz2
   go_enter Tryz.func116, Tryz.ntmps116
   go_wp2
   go_ret
   exact ⟨_, rfl, World.ownsRow_nil _ _ _ _, Below.refl _ _⟩
 · have hq := fun (w : World) (n' c' : Nat) => Lib.run_eql_slice_nil (P := Tryz.prog) w 33 5 (some a) n c n' c' Tryz.underlying33
   have H := jI h
   clear h hn
   go_enter Tryz.func116, Tryz.ntmps116
   go_wp2_with (at_builtin; go_must (refine wpList_append_row rfl _ _ 33 rfl w.heap.size 5 i0 _ 1 1 Tryz.underlying33 hi hz0 hz1 hz2 rfl (by omega) _ 0 [] rfl (World.ownsRow_made w #[] 0 (Nat.le_refl _) (by simp [maxLen]) rfl) (fun k => k < w.heap.size) _ n c (Lib.byteCells bs) rfl ?_ (byteCells_one bs) ?_ ?_ ?_ ?_))
   · have h1 := ((Sl.toT H.out.sl).kept (w' := w.alloc (.cells #[] 5)) fun k _ hk => Below.heap_alloc w _ k hk).row
     rw [← HN.out] at h1
     exact h1
   · have := HN.out; simp only [maxLen]; omega
   · have := HN.out; omega
   · rw [World.size_alloc]; omega
   · intro v' w2 ho hg
     have HO := jI (show w2.ownsRow w.heap.size 5 1 v' n (Lib.byteCells bs) by simpa using ho)
     have HB := jI (((Below.refl w.heap.size w).alloc (Nat.le_refl _) (.cells #[] 5)).grown hg (by rw [World.size_alloc]; omega) (fun k hk => by injection hk with hk; rw [← hk]; exact Nat.le_refl _))
     clear ho hg
     go_wp2_with fail
     go_ret
     exact ⟨_, rfl, HO.out, HB.out⟩
theorem tmodR (a : Int) (b : Nat) (hb : 0 < b) : (0 ≤ a.tmod b ∧ a.tmod b = ((a % (b : Int)).toNat : Int)) ∨ (a.tmod b < 0 ∧ a.tmod b + b = ((a % (b : Int)).toNat : Int)) := by
 have h0 := Int.emod_nonneg a (show (b : Int) ≠ 0 by omega)
 have h1 := Int.emod_lt_of_pos a (show (0 : Int) < b by omega)
 have e := Int.tmod_eq_emod (a := a) (b := (b : Int))
 by_cases hc : 0 ≤ a ∨ (b : Int) ∣ a
 · rw [if_pos hc] at e
   left
   omega
 · rw [if_neg hc] at e
   right
   have : ((b : Int).natAbs : Int) = b := by omega
   omega
theorem remainder_any (w : World) (T : Nat → Prop) (A : Option Addr) (n c : Nat) (keep : List Int) (h : IntsT w T (.slice A n c) keep) (hin : ∀ z ∈ keep, inI z) (i by_ : Nat) (hi : i ≤ 1) (hb : 0 < by_) (hb2 : by_ ≤ 9223372036854775807) :
   Calls Tryz.prog 47 #[.slice A n c, .int .i64 (i : Int), .int .i64 (by_ : Int)] w fun x w' => x = .returned (.int .i64 (restK keep i by_ : Int)) ∧ w = w' := by
 obtain ⟨A', c', hv, hnc, hcm⟩ := RowT.form h
 injection hv with e1 e2 e3
 subst e1; subst e3
 by_cases hlt : i < keep.length
 · obtain ⟨hn, _, _, b, off, rfl, _, hc⟩ := RowT.at_ h (by omega)
   have hz := hin (keep[i]) (List.getElem_mem _)
   obtain ⟨z, hzz⟩ : ∃ z, z = keep[i] := ⟨_, rfl⟩
   have hcell : w.cell? ⟨b, off + i, none⟩ = some (.int .i64 z) := hc i _ (by rw [List.getElem?_map, List.getElem?_eq_getElem hlt, hzz]; rfl)
   have hr : restK keep i by_ = (z % (by_ : Int)).toNat := by
     unfold restK
     rw [if_pos hlt, hzz]
     simp [List.getD, List.getElem?_eq_getElem hlt]
   rw [hr]
   rw [← hzz] at hz
   unfold inI at hz
   obtain ⟨hz1, hz2⟩ := hz
   have ht := tmodR z by_ hb
   generalize hm : (z % (by_ : Int)).toNat = m at ht
   have hm2 : (m : Int) < by_ := by
     have h1 := Int.emod_lt_of_pos z (show (0 : Int) < by_ by omega)
     have h0 := Int.emod_nonneg z (show (by_ : Int) ≠ 0 by omega)
     omega
   obtain ⟨t, hte⟩ : ∃ t, t = z.tmod (by_ : Int) := ⟨_, rfl⟩
   rw [← hte] at ht
   have hte' := hte.symm
   have g1 : (i : Int) < (n : Int) := by omega
   have g0 : (0 : Int) ≤ (i : Int) := by omega
   have gb : ¬ (by_ : Int) = 0 := by omega
   have gi : i < n := by omega
   clear hc hzz hr hm hte h hin e2
   subst hn
   rcases ht with ⟨ht1, ht2⟩ | ⟨ht1, ht2⟩
   · have HT := jI ht2
     have gt : t ≤ 9223372036854775807 := by omega
     clear ht2
     go_enter Tryz.func47, Tryz.ntmps47
     go_wp2_with fail
     go_ret
     exact ⟨by rw [HT.out]; rfl, rfl⟩
   · have HT := jI ht2
     have gt : t + (by_ : Int) ≤ 9223372036854775807 := by omega
     have gt2 : (0 : Int) ≤ t + (by_ : Int) := by omega
     clear ht2
     go_enter Tryz.func47, Tryz.ntmps47
     go_wp2_with fail
     go_ret
     exact ⟨by rw [HT.out]; rfl, rfl⟩
 · have hr : restK keep i by_ = 0 := by unfold restK; rw [if_neg hlt]
   rw [hr]
   have g1 : (n : Int) ≤ (i : Int) := by omega
   clear h hin e2 hr
   go_enter Tryz.func47, Tryz.ntmps47
   go_wp2
   go_ret
   exact ⟨rfl, rfl⟩
section
variable {w w' : World} {S : Nat → Prop} {p gn gs nc sc n : Nat} {vw : Value} {cs : List Value} {nowb safeb : List UInt8} {L : List (Nat × List UInt8)} {off ar : Bool} {ah : Int}
set_option maxHeartbeats 1000000 in
theorem DRead_any (h : Rep w S p gn gs nc sc n vw cs nowb safeb L off ar ah) (hn : n ≤ 4194304) (at_ k : Int) (ha : inI at_) (hk : inI k) :
   Calls Tryz.prog 49 #[.pointer (some ⟨p, 0, none⟩), .int .i64 at_, .int .i64 k] w fun x w' => ∃ v, x = .returned (.tuple #[v, er (if 0 ≤ at_ ∧ 0 ≤ k ∧ k ≤ (n : Int) - at_ then (if off = true then 13 else 0) else 1)]) ∧
     SlT w' (fun k => w.heap.size ≤ k ∧ k < w'.heap.size) v (if 0 ≤ at_ ∧ 0 ≤ k ∧ k ≤ (n : Int) - at_ ∧ off = false then (nowb.drop at_.toNat).take k.toNat else []) ∧ Below w.heap.size w w' := by
 obtain ⟨i0, hi, hz0, hz1, hz2⟩ := info_parts info_u8
 obtain ⟨c0, -, -, c3, -, -, -⟩ := h.cells
 by_cases hin : 0 ≤ at_ ∧ 0 ≤ k ∧ k ≤ (n : Int) - at_
 · have hc := has_any h at_ k ha hk true (decide_eq_true hin).symm
   rw [if_pos hin]
   cases off with
   | true =>
     rw [if_pos rfl, if_neg (by simp)]
     clear hin
     go_enter Tryz.func49, Tryz.ntmps49
     go_wp2_with (go_at_call 90; go_must (refine hc.mono ?_; rintro y w1 ⟨rfl, rfl⟩))
     go_ret2
     exact ⟨_, rfl, SlT.nil_ _ _, Below.refl _ _⟩
   | false =>
     rw [if_neg (by simp), if_pos ⟨hin.1, hin.2.1, hin.2.2, rfl⟩, er_zero]
     obtain ⟨h1, h2, h3⟩ := hin
     obtain ⟨a, rfl⟩ : ∃ a : Nat, at_ = (a : Int) := ⟨at_.toNat, by omega⟩
     obtain ⟨m, rfl⟩ : ∃ m : Nat, k = (m : Int) := ⟨k.toNat, by omega⟩
     rw [Int.toNat_natCast, Int.toNat_natCast]
     obtain ⟨hnn, hcn⟩ := own_cap h.now
     have HN := jI h.now
     have HS := jI (jA (h.foot p h.sp) h.nlen.1)
     have hgn := jI (h.foot gn h.sn)
     have ham : a + m ≤ n := by omega
     have ham' : a ≤ n := by omega
     have hmn : m ≤ 4194304 := by omega
     have C0 := jI c0
     clear h ha hk h3 c0
     go_enter Tryz.func49, Tryz.ntmps49
     go_upto_region 6 with (first
       | (at_make; go_must (refine wpList_make_full _ rfl _ _ 33 rfl w.heap.size 5 i0 _ 1 Tryz.underlying33 hi hz0 hz1 .i64 .i64 _ _ m rfl rfl rfl rfl (by rw [hz2]; omega) (by unfold maxLen; omega) (Nat.le_refl _) ?_; intro w2 hown hg2; have HO := jI hown; have HG := jI hg2; clear hown hg2))
       | (go_at_call 90; go_must (refine hc.mono ?_; rintro y w1 ⟨rfl, rfl⟩)))
     obtain ⟨zs, HO⟩ : ∃ zs, Hid (w2.ownsRow w.heap.size 5 1 (.slice (some ⟨w.heap.size, 0, none⟩) m m) m zs) := ⟨_, HO⟩
     clear hc c3
     have hB := (Below.refl w.heap.size w).grown HG.out (Nat.le_refl _) (fun k hk => by cases hk)
     have c0 : w2.cell? ⟨p, 0, none⟩ = some (.slice (some ⟨gn, 0, none⟩) n nc) := (hB.cell (p := ⟨p, 0, none⟩) HS.out.1).trans C0.out
     have hn2 := own_block HN.out (w' := w2) (fun g e => by injection e with e; rw [← e]; exact hB.block gn hgn.out)
     have HB := jI hB
     have HL := jI (show ((nowb.drop a).take m).length = m from cut_len (by have := HS.out.2; omega))
     have HSRC := jI (own_src (at_ := a) (k := m) hn2)
     clear hB hn2 HG C0
     by_cases hcap : nc = a
     all_goals
       go_wp2_with (with_reducible refine wpList_copy_rowE rfl (.tmp 22) (.tmp 28) 33 33 rfl 5 Tryz.underlying33 size_u8 w.heap.size w.heap.size m m _ HO.out _ _ _ _ _ _ rfl rfl 0 (Lib.byteCells ((nowb.drop a).take m)) ?_ ?_ ?_ ?_ ?_)
       · rw [byteCells_len, HL.out]; exact (Nat.min_eq_right (by omega)).symm
       · intro h0
         have h0' : 0 < m := by rw [byteCells_len, HL.out] at h0; exact h0
         first
           | (exfalso; omega)
           | exact ⟨rfl, _, rfl, HSRC.out⟩
           | exact (fun j v hj => by have := HSRC.out j v hj; rwa [Lib.add_plain] at this)
       · rw [byteCells_len, HL.out]; omega
       · exact byteCells_one _
       · intro w3 ho hg
         have e : splice zs 0 (Lib.byteCells ((nowb.drop a).take m)) = Lib.byteCells ((nowb.drop a).take m) := by
           have hz : zs.length = m * 1 := HO.out.1
           unfold splice
           rw [byteCells_len, HL.out, show zs.drop (0 + m) = [] from List.drop_eq_nil_of_le (by omega)]
           simp
         have e2 : ((nowb.drop a).take m).length = m := HL.out
         have HO3 := jI (SlT.of_own (T := fun k => w.heap.size ≤ k ∧ k < w3.heap.size) (show w3.ownsRow w.heap.size 5 1 (.slice (some ⟨w.heap.size, 0, none⟩) m m) ((nowb.drop a).take m).length (Lib.byteCells ((nowb.drop a).take m)) by rw [e2]; rw [e] at ho; exact ho) (fun g hk => ho.lt g hk))
         have HB3 := jI (HB.out.grown hg HB.out.size (fun k hk => by injection hk with hk; rw [← hk]; exact Nat.le_refl _))
         clear ho hg e e2
         go_wp2_with fail
         go_ret2
         exact ⟨_, rfl, HO3.out, HB3.out⟩
 · have hc := has_any h at_ k ha hk false (decide_eq_false hin).symm
   rw [if_neg hin, if_neg (fun hx => hin ⟨hx.1, hx.2.1, hx.2.2.1⟩)]
   clear hin h
   go_enter Tryz.func49, Tryz.ntmps49
   go_wp2_with (go_at_call 90; go_must (refine hc.mono ?_; rintro y w1 ⟨rfl, rfl⟩))
   go_ret2
   exact ⟨_, rfl, SlT.nil_ _ _, Below.refl _ _⟩
end
end
section
def ArmR (d : Dk) (ar : Bool) (ah : Int) : Prop := d.armed ≤ 9223372036854775807 ∧ (d.off = false → ar = decide (0 ≤ d.armed) ∧ (0 ≤ d.armed → ah = d.armed))
def DKr (R : Nat → Prop) (wR w : World) (S : Nat → Prop) (p : Nat) (d : Dk) : Prop :=
 ∃ gn gs nc sc vw cs ar ah, Rep w S p gn gs nc sc d.B.length vw cs d.now d.B d.L d.off ar ah ∧ (∀ k, R k → Rest S p gn gs vw k ∧ w.heap[k]? = wR.heap[k]?) ∧ (d.Ok ∧ 1 ≤ d.B.length ∧ d.B.length ≤ 4194304) ∧ ArmR d ar ah
section
variable {w w' : World} {S : Nat → Prop} {p gn gs nc sc n : Nat} {vw : Value} {cs : List Value} {nowb safeb b : List UInt8} {L K : List (Nat × List UInt8)} {off : Bool} {R : Nat → Prop} {wR : World} {d : Dk} {ar : Bool} {ah : Int}
theorem pins_go (hp : ∀ k, R k → Rest S p gn gs vw k ∧ w.heap[k]? = wR.heap[k]?) (hf : ∀ k, S k → k < w.heap.size) (hk : Kept (Mut p gn gs vw) w w') : ∀ k, R k → Rest S p gn gs vw k ∧ w'.heap[k]? = wR.heap[k]? := fun k hr => by
 obtain ⟨h1, h2⟩ := hp k hr
 exact ⟨h1, (hk.block k (hf k h1.1) h1.not).trans h2⟩
theorem Rest.re {vw' : Value} (e : vw'.ownBlock = vw.ownBlock) {k : Nat} (h : Rest S p gn gs vw k) : Rest S p gn gs vw' k := ⟨h.1, h.2.1, h.2.2.1, h.2.2.2.1, by rw [e]; exact h.2.2.2.2⟩
theorem mut_turn (h : Rep w S p gn gs nc sc n vw cs nowb safeb L off ar ah) (hk : Kept (Mut p gn gs vw) w w') : Turn S S w w' := Kept.turn (hk.mono fun k hm => by
 rcases hm with e | e | e | e
 · rw [e]; exact h.sp
 · rw [e]; exact h.sn
 · rw [e]; exact h.ss
 · exact h.sw k e)
theorem step_dk (h : Rep w S p gn gs nc sc n vw cs nowb safeb L d.off ar ah) (ho : d.off = false) (ha : ArmR d ar ah) :
   Calls Tryz.prog 117 #[.pointer (some ⟨p, 0, none⟩)] w fun x w' => x = .returned (er (stepE d)) ∧ ∃ ar' ah', Rep w' S p gn gs nc sc n vw cs nowb safeb L (stepD d).off ar' ah' ∧ ArmR (stepD d) ar' ah' ∧ Kept (Mut p gn gs vw) w w' := by
 obtain ⟨h1, h2⟩ := ha
 obtain ⟨h3, h4⟩ := h2 ho
 by_cases h0 : d.armed = 0
 · have e1 : stepE d = 13 := by unfold stepE; rw [if_pos h0]
   have e2 : stepD d = { d with off := true, armed := -1 } := by unfold stepD; rw [if_pos h0]
   have h5 : ah = 0 := by rw [h4 (by omega), h0]
   have h6 : ar = true := by rw [h3]; exact decide_eq_true (by omega)
   subst h6
   rw [e1, e2]
   exact (step_now h h5).mono fun _ _ ⟨hx, hw⟩ => ⟨hx, true, ah, hw ▸ h.set3 true, ⟨by show (-1 : Int) ≤ _; omega, fun hc => by cases hc⟩, hw ▸ kept_set (Or.inl rfl) _⟩
 · have e1 : stepE d = 0 := by unfold stepE; rw [if_neg h0]
   by_cases hp : 0 < d.armed
   · have e2 : stepD d = { d with armed := d.armed - 1 } := by unfold stepD; rw [if_neg h0, if_pos hp]
     have h5 : ah = d.armed := h4 (by omega)
     have h6 : ar = true := by rw [h3]; exact decide_eq_true (by omega)
     subst h6; subst h5
     rw [e1, e2]
     exact (step_later h hp h1).mono fun _ _ ⟨hx, hw⟩ => ⟨hx, true, d.armed - 1, hw ▸ h.set5 _, ⟨by show d.armed - 1 ≤ _; omega, fun _ => ⟨(decide_eq_true (show (0 : Int) ≤ d.armed - 1 by omega)).symm, fun _ => rfl⟩⟩, hw ▸ kept_set (Or.inl rfl) _⟩
   · have e2 : stepD d = d := by unfold stepD; rw [if_neg h0, if_neg hp]
     have h6 : ar = false := by rw [h3]; exact decide_eq_false (by omega)
     subst h6
     rw [e1, e2]
     exact (step_no h).mono fun _ _ ⟨hx, hw⟩ => ⟨hx, false, ah, hw ▸ h, ⟨h1, h2⟩, hw ▸ Kept.refl _ _⟩
theorem settledD (h : Rep w' S p gn gs nc sc n vw [] (backL (nowL b L) (nowL b K) L) (nowL b K) [] off ar ah) (hok : ∀ x ∈ L, x.1 + x.2.length ≤ b.length) (hk : ∀ x ∈ K, x.1 + x.2.length ≤ b.length) (hc : ∀ j, Cover K j → Cover L j) :
   Rep w' S p gn gs nc sc n vw [] (nowL b K) (nowL b K) [] off ar ah := by
 rw [backL_now b L K hok hk hc] at h
 exact h
set_option maxHeartbeats 1000000 in
theorem Sync_any (h : DKr R wR w S p d) :
   Calls Tryz.prog 93 #[.pointer (some ⟨p, 0, none⟩)] w fun r w' => ∃ S', r = .returned (er (syncE d)) ∧ DKr R wR w' S' p (syncD d) ∧ Turn S S' w w' := by
 obtain ⟨gn, gs, nc, sc, vw, cs, ar, ah, hr, hp, ⟨hok, hb1, hb2⟩, ha⟩ := h
 cases ho : d.off with
 | true =>
   have e1 : syncE d = 13 := by unfold syncE; rw [if_pos ho]
   have e2 : syncD d = d := by unfold syncD; rw [if_pos ho]
   rw [e1, e2]
   obtain ⟨-, -, -, c3, -, -, -⟩ := hr.cells
   rw [ho] at c3
   have HK := jI (show DKr R wR w S p d from ⟨gn, gs, nc, sc, vw, cs, ar, ah, hr, hp, ⟨hok, hb1, hb2⟩, ha⟩)
   clear hr hp hok hb1 hb2 ha ho e1 e2
   go_enter Tryz.func93, Tryz.ntmps93
   go_wp2
   go_ret
   exact ⟨S, rfl, HK.out, Turn.refl _ _⟩
 | false =>
   have hst := step_dk hr ho ha
   obtain ⟨-, -, -, c3, -, -, -⟩ := hr.cells
   rw [ho] at c3
   have hfoot := hr.foot
   have hdl := stepD_L d
   by_cases h0 : stepE d = 0
   · have e1 : syncE d = 0 := by unfold syncE; rw [if_neg (by simp [ho]), h0]
     have e2 : syncD d = { stepD d with B := d.now, L := [] } := by unfold syncD; rw [if_neg (by simp [ho]), if_pos h0]
     rw [h0, er_zero] at hst
     rw [e1, e2, er_zero]
     have hoff : (stepD d).off = false := by
       unfold stepE at h0
       unfold stepD
       by_cases hz : d.armed = 0
       · rw [if_pos hz] at h0; omega
       · rw [if_neg hz]
         by_cases hz1 : 0 < d.armed
         · rw [if_pos hz1]; exact ho
         · rw [if_neg hz1]; exact ho
     have HS := jI hst
     have HP := jI hp
     have HF := jI hfoot
     have HO := jI (jA hok (jA hb1 (jA hb2 hoff)))
     obtain ⟨A, c, rfl, hlc, hcm⟩ := own_form hr.rows
     obtain ⟨m, hm⟩ : ∃ m, m = d.L.length := ⟨_, rfl⟩
     rw [← hm] at hlc HS HP
     have HM := jI hm
     have HTR := jI (fun (W : World) (hk : Kept (Mut p gn gs (.slice A d.L.length c)) w W) => mut_turn hr hk)
     clear hr hp hok hb1 hb2 ha hst hfoot hdl ho hoff e1 e2 h0 hm
     go_enter Tryz.func93, Tryz.ntmps93
     go_upto_region 8 with (go_at_call 117; go_must (refine HS.out.mono ?_; rintro y w2 ⟨rfl, ar', ah', hr2, ha2, hk2⟩; have H2 := jI (jA hr2 (jA ha2 hk2)); obtain ⟨-, -, k2, -, -, -, -⟩ := hr2.cells; clear hr2 ha2 hk2))
     go_upto_region 9 with (go_at_call 48; go_must (refine (settle_any (vw := .slice A m c) H2.out.1 m 0 (by rw [HM.out]; exact Nat.le_refl _) (fun hlt => by have := HM.out; omega) HO.out.1).mono ?_; rintro y w3 ⟨rfl, ⟨vw', hr3, hv3⟩, hk3⟩; have H3 := jI (jA hr3 (jA hv3 hk3)); clear hr3 hv3 hk3))
     go_wp2_with fail
     go_ret
     obtain ⟨hr2, ha2, hk2⟩ := H2.out
     obtain ⟨hr3, hv3, hk3⟩ := H3.out
     obtain ⟨hok, hb1, hb2, hoff⟩ := HO.out
     have hpl : partL d.L m 0 = d.L := by rw [HM.out]; exact partL_all _ _
     rw [hpl] at hr3
     have hr4 := settledD (b := d.B) (L := d.L) (K := d.L) hr3 hok hok (fun _ h => h)
     have hln : d.now.length = d.B.length := hok.now
     have hkk := hk2.trans hk3
     refine ⟨S, rfl, ⟨gn, gs, nc, sc, vw', [], ar', ah', ?_, fun k hr => ?_, ⟨fun x hx => (by cases hx), by show 1 ≤ d.now.length; omega, by show d.now.length ≤ _; omega⟩, ?_⟩, HTR.out _ (by rw [← HM.out]; exact hkk)⟩
     · show Rep _ S p gn gs nc sc d.now.length vw' [] (nowL d.now []) d.now [] (stepD d).off ar' ah'
       rw [hln]
       exact hr4
     · obtain ⟨h1, h2⟩ := pins_go HP.out HF.out hkk k hr
       exact ⟨h1.re hv3, h2⟩
     · exact ha2
   · have e1 : syncE d = stepE d := by unfold syncE; rw [if_neg (by simp [ho])]
     have e2 : syncD d = stepD d := by unfold syncD; rw [if_neg (by simp [ho]), if_neg h0]
     have h13 : stepE d = 13 := by
       unfold stepE at h0 ⊢
       by_cases hz : d.armed = 0
       · rw [if_pos hz]
       · rw [if_neg hz] at h0; exact absurd rfl h0
     rw [e1, e2, h13]
     rw [h13] at hst
     have hE : er 13 = .iface 69 (.int .i64 13) := rfl
     rw [hE] at hst ⊢
     have HS := jI hst
     have HK := jI (fun (W : World) (ar' : Bool) (ah' : Int) (hr2 : Rep W S p gn gs nc sc d.B.length vw cs d.now d.B d.L (stepD d).off ar' ah') (ha2 : ArmR (stepD d) ar' ah') (hk2 : Kept (Mut p gn gs vw) w W) =>
       show DKr R wR W S p (stepD d) ∧ Turn S S w W from ⟨⟨gn, gs, nc, sc, vw, cs, ar', ah', by rw [Dk.now, hdl.1, hdl.2]; exact hr2, pins_go hp hfoot hk2, ⟨stepD_ok hok, by rw [hdl.2]; exact ⟨hb1, hb2⟩⟩, ha2⟩, mut_turn hr hk2⟩)
     clear hr hp hok hb1 hb2 ha hst hfoot hdl ho e1 e2 h0 h13 hE
     go_enter Tryz.func93, Tryz.ntmps93
     go_wp2_with (go_at_call 117; go_must (refine HS.out.mono ?_; rintro y w2 ⟨rfl, ar', ah', hr2, ha2, hk2⟩; have H2 := jI (HK.out _ _ _ hr2 ha2 hk2); clear hr2 ha2 hk2))
     go_ret
     exact ⟨S, rfl, H2.out.1, H2.out.2⟩
set_option maxHeartbeats 1000000 in
theorem Start_any (h : DKr R wR w S p d) (A : Option Addr) (m c : Nat) (keep : List Int) (hl : d.L.length < 100000) (hk : IntsT w (Av w S) (.slice A m c) keep) (hin : ∀ z ∈ keep, inI z) :
   Calls Tryz.prog 22 #[.pointer (some ⟨p, 0, none⟩), .slice A m c] w fun r w' => ∃ S', r = .returned (.tuple #[]) ∧ DKr R wR w' S' p (startD d keep) ∧ Turn S S' w w' := by
 obtain ⟨gn, gs, nc, sc, vw, cs, ar, ah, hr, hp, ⟨hok, hb1, hb2⟩, ha⟩ := h
 obtain ⟨A2, c2, rfl, hlc, hcm⟩ := own_form hr.rows
 obtain ⟨k, hkk⟩ : ∃ k, k = d.L.length := ⟨_, rfl⟩
 obtain ⟨whole, hwh⟩ : ∃ x, x = restK keep 0 (d.L.length + 1) := ⟨_, rfl⟩
 have hwl : whole < d.L.length + 1 := by rw [hwh]; exact restK_le _ _ _ (by omega)
 have r0 := remainder_any w (Av w S) A m c keep hk hin 0 (d.L.length + 1) (by omega) (by omega) (by omega)
 rw [← hwh] at r0
 obtain ⟨-, -, x2, -, -, -, -⟩ := hr.cells
 have hs1 : ((d.L.length + 1 : Nat) : Int) = (d.L.length : Int) + 1 := by omega
 rw [hs1] at r0
 rw [← hkk] at hlc x2 r0 hl hwl
 have HF := jI hr.foot
 have HR := jI hr
 have HP := jI hp
 have HO := jI (jA hok (jA hb1 hb2))
 have HKK := jI hkk
 have HWH := jI hwh
 have R0 := jI r0
 have fin : ∀ (part : Nat) (W : World), (∀ h : whole < d.L.length, part = restK keep 1 (d.L[whole].2.length + 1)) →
     ((∃ vw', Rep W S p gn gs nc sc d.B.length vw' [] (backL d.now (nowL d.B (partL d.L whole part)) d.L) (nowL d.B (partL d.L whole part)) [] d.off ar ah ∧ vw'.ownBlock = (Value.slice A2 d.L.length c2).ownBlock) ∧ Kept (Mut p gn gs (.slice A2 d.L.length c2)) w W) →
     DKr R wR ((W.setCell ⟨p, 3, none⟩ (.bool false)).setCell ⟨p, 4, none⟩ (.bool false)) S p (startD d keep) ∧ Turn S S w ((W.setCell ⟨p, 3, none⟩ (.bool false)).setCell ⟨p, 4, none⟩ (.bool false)) := by
   intro part W hpart ⟨⟨vw', h1, h2⟩, h3⟩
   have hK : partL d.L whole part = keptL d.L keep := by rw [hwh]; exact partL_kept _ _ _ (by rw [← hwh]; exact hpart)
   rw [hK] at h1
   have h4 := settledD (b := d.B) (L := d.L) (K := keptL d.L keep) h1 hok (keptL_ok hok keep) (by rw [← hK]; exact fun j hj => partL_cover j hj)
   have h5 := (h4.set3 false).set4 false
   have hln : (nowL d.B (keptL d.L keep)).length = d.B.length := nowL_len (keptL_ok hok keep)
   have hkt := (h3.trans (kept_set (p := p) (j := 3) (Or.inl rfl) (.bool false))).trans (kept_set (p := p) (j := 4) (Or.inl rfl) (.bool false))
   refine ⟨⟨gn, gs, nc, sc, vw', [], false, ah, ?_, fun k hr' => ?_, ⟨startD_ok _ _, by rw [startD_len hok]; exact ⟨hb1, hb2⟩⟩, ⟨by show (-1 : Int) ≤ _; omega, fun _ => ⟨rfl, fun (hc : (0 : Int) ≤ -1) => by omega⟩⟩⟩, mut_turn hr hkt⟩
   · show Rep _ S p gn gs nc sc (nowL d.B (keptL d.L keep)).length vw' [] (nowL (nowL d.B (keptL d.L keep)) []) (nowL d.B (keptL d.L keep)) [] false false ah
     rw [hln]
     exact h5
   · obtain ⟨h1, h2'⟩ := pins_go hp hr.foot hkt k hr'
     exact ⟨h1.re h2, h2'⟩
 have FIN := jI fin
 by_cases hlt : whole < k
 · have hlt' : whole < d.L.length := by omega
   obtain ⟨gw, c3, Ab, cb, hv, hgw, e0, e1, hsl⟩ := hr.elem whole hlt'
   injection hv with ea eb ec
   subst ea; subst ec
   obtain ⟨lx, hlx⟩ : ∃ lx, lx = (d.L[whole]'hlt').2.length := ⟨_, rfl⟩
   obtain ⟨part, hpart⟩ : ∃ part, part = restK keep 1 (lx + 1) := ⟨_, rfl⟩
   have hlxb : lx ≤ 4194304 := by have := hok (d.L[whole]'hlt') (List.getElem_mem _); omega
   have r1 := remainder_any w (Av w S) A m c keep hk hin 1 (lx + 1) (by omega) (by omega) (by omega)
   rw [← hpart] at r1
   have hs2 : ((lx + 1 : Nat) : Int) = (lx : Int) + 1 := by omega
   rw [hs2] at r1
   have hpl : part ≤ lx := by have := restK_le keep 1 (lx + 1) (by omega); omega
   have R1 := jI r1
   rw [← hlx] at e1
   have HLX := jI hlx
   have HPA := jI hpart
   have HPL := jI hpl
   clear hk hin hp hok hb1 hb2 ha hkk hwh r0 hs1 eb hsl hgw e0 hlx hpart r1 hs2 hpl fin hr
   go_enter Tryz.func22, Tryz.ntmps22
   go_upto_region 2 with (go_at_call 47; go_must (refine R0.out.mono ?_; rintro y w1 ⟨rfl, rfl⟩))
   go_upto_region 4 with (go_at_call 47; go_must (refine R1.out.mono ?_; rintro y w1 ⟨rfl, rfl⟩))
   go_upto_region 5 with (go_at_call 48; go_must (refine (settle_any HR.out whole part (by have := HKK.out; omega) (fun h => by have := HLX.out; have := HPL.out; omega) HO.out.1).mono ?_; rintro y w2 ⟨rfl, h2⟩; have H2 := jI h2; clear h2))
   have q := H2.out.1
   obtain ⟨vw', q1, -⟩ := q
   obtain ⟨-, -, -, y3, y4, -, yf⟩ := q1.cells
   have f3 := yf 3
   have f4 := yf 4
   clear q1 yf
   go_wp2_with fail
   refine bodyPost_end (v := .tuple #[]) (results_none (by kernel_rfl) _ _ _) rfl ⟨S, rfl, ?_⟩
   exact FIN.out part w2 (fun h => by rw [HPA.out, HLX.out]) H2.out
 · have hwk : whole = k := by omega
   subst hwk
   clear hk hin hp hok hb1 hb2 ha hkk hwh r0 hs1 fin hr
   go_enter Tryz.func22, Tryz.ntmps22
   go_upto_region 2 with (go_at_call 47; go_must (refine R0.out.mono ?_; rintro y w1 ⟨rfl, rfl⟩))
   go_upto_region 5 with (go_at_call 48; go_must (refine (settle_any HR.out whole 0 (by have := HKK.out; omega) (fun h => Nat.zero_le _) HO.out.1).mono ?_; rintro y w2 ⟨rfl, h2⟩; have H2 := jI h2; clear h2))
   have q := H2.out.1
   obtain ⟨vw', q1, -⟩ := q
   obtain ⟨-, -, -, y3, y4, -, yf⟩ := q1.cells
   have f3 := yf 3
   have f4 := yf 4
   clear q1 yf
   go_wp2_with fail
   refine bodyPost_end (v := .tuple #[]) (results_none (by kernel_rfl) _ _ _) rfl ⟨S, rfl, ?_⟩
   exact FIN.out 0 w2 (fun h => by have := HKK.out; omega) H2.out
end
end
section
theorem own_eq {g1 g a b : Nat} (e : (Value.slice (some ⟨g1, 0, none⟩) a b).ownBlock = some g) : g1 = g := by injection e
end
end Go.Proofs.YtncaefocijainaaGreatDoor.pk
