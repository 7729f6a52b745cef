import Derived.Test.YtncaefocijainaaGreatDoorG12
import Derived.Deep.QuietTactic
import Derived.BigQuiet
import Derived.IntWalk
import Derived.Outline
import Derived.RegionTactic
namespace Go.Proofs.YtncaefocijainaaGreatDoor.pk
open Go Go.RowKit
set_option maxRecDepth 100000
section
set_option maxHeartbeats 2000000 in
theorem MayC_any (A : Option Addr) (m c : Nat) (zs : List Int) (w : World) (h : Ints w (.slice A m c) zs) (r : Bool) (hr : r = mayC zs) :
   Calls Tryz.prog 86 #[.slice A m c] w fun y w' => y = .returned (.bool r) ∧ Below w.heap.size w w' := by
 obtain ⟨hm, hmc, hcm, hat⟩ := h.at_
 have im : (m : Int) ≤ 9223372036854775807 := by omega
 have HM := jI (jA hm (jA hat hr))
 clear h hm hmc hcm hat hr
 go_enter Tryz.func86, Tryz.ntmps86
 go_wp2_with fail
 go_loopw [3] (fun ii wr => ∃ k : Nat, k ≤ m ∧ ii = .int .i64 (k : Int) ∧ (∀ j, j < k → okC zs j) ∧ Below w.heap.size w wr) (fun ii _ => m - (intOf ii).toNat)
 case atStart => exact ⟨0, Nat.zero_le _, rfl, fun j hj => absurd hj (Nat.not_lt_zero j), Below.refl _ _⟩
 case round =>
   obtain ⟨k, hk, rfl, hno, hbw⟩ := hrel
   have HW := jI (jA hno hbw)
   clear hno hbw
   by_cases hlt : k < m
   · obtain ⟨b, off, rfl, hb, hc⟩ := HM.out.2.1 (by omega)
     have g1 := (HW.out.2.cell (p := ⟨b, off + k, none⟩) hb).trans (hc k hlt)
     have g2 := (HW.out.2.cell (p := ⟨b, off + (k - 1), none⟩) hb).trans (hc (k - 1) (by omega))
     have ik : (k : Int) < (m : Int) := by omega
     have ik0 : (0 : Int) ≤ (k : Int) := by omega
     have OK := jI (show okC zs k ↔ _ from Iff.rfl)
     obtain ⟨z, hz⟩ : ∃ z, z = zs.getD k 0 := ⟨_, rfl⟩
     obtain ⟨y, hy⟩ : ∃ y, y = zs.getD (k - 1) 0 := ⟨_, rfl⟩
     rw [← hz] at g1
     rw [← hy] at g2
     have HZ := jI (jA hz hy)
     clear hb hc hz hy
     have bad : ¬ okC zs k → r = false := fun hn => by
       rw [HM.out.2.2]
       cases hmy : mayC zs with
       | false => rfl
       | true => exact absurd (((mayC_iff zs).1 hmy).2 k (by have := HM.out.1; omega)) hn
     by_cases h1 : z < 1
     · have d1 := decide_eq_true h1
       have hrf := bad fun e => by have := e.1; rw [← HZ.out.1] at this; omega
       subst hrf
       clear bad
       go_wp2_with fail
       go_quiet (fail)
       go_wp2_with fail
       go_ret
       exact ⟨rfl, below_drawn HW.out.2 _⟩
     · have d1 := decide_eq_false h1
       by_cases h2 : 64 < z
       · have d2 := decide_eq_true h2
         have hrf := bad fun e => by have := e.2.1; rw [← HZ.out.1] at this; omega
         subst hrf
         clear bad
         go_wp2_with fail
         go_quiet (fail)
         go_wp2_with fail
         go_ret
         exact ⟨rfl, below_drawn HW.out.2 _⟩
       · have d2 := decide_eq_false h2
         by_cases h0 : k = 0
         · subst h0
           have d0 : decide ((0 : Int) < ((0 : Nat) : Int)) = false := by decide
           have dn : decide (0 < 0) = false := by decide
           have g3 : wr.cell? ⟨b, off, none⟩ = some (.int .i64 z) := g1
           clear g1 g2
           have ok : okC zs 0 := ⟨by rw [← HZ.out.1]; omega, by rw [← HZ.out.1]; omega, fun h => absurd h (by omega)⟩
           have HOK := jI ok
           clear bad ok
           go_wp2_with fail
           go_quiet (fail)
           go_wp2_with fail
           go_roundw
           case rel => exact ⟨1, by omega, by go_num, fun j hj => by
             obtain rfl : j = 0 := by omega
             exact HOK.out, below_drawn HW.out.2 _⟩
           case measure => simp [intOf]; omega
         · have k0 : (0 : Int) < (k : Int) := by omega
           have k1 : ((k : Int) - 1).toNat = k - 1 := by omega
           have k2 : (0 : Int) ≤ (k : Int) - 1 := by omega
           have k3 : (k : Int) - 1 < (m : Int) := by omega
           have d0 := decide_eq_true k0
           have dn := decide_eq_true (show 0 < k by omega)
           by_cases h3 : z ≤ y
           · have d3 := decide_eq_true h3
             have hrf := bad fun e => by have := e.2.2 (by omega); rw [← HZ.out.1, ← HZ.out.2] at this; omega
             subst hrf
             clear bad
             go_wp2_with fail
             go_quiet (fail)
             go_wp2_with fail
             go_ret
             exact ⟨rfl, below_drawn HW.out.2 _⟩
           · have d3 := decide_eq_false h3
             have ok : okC zs k := ⟨by rw [← HZ.out.1]; omega, by rw [← HZ.out.1]; omega, fun _ => by rw [← HZ.out.1, ← HZ.out.2]; omega⟩
             have HOK := jI ok
             clear bad ok
             go_wp2_with fail
             go_quiet (fail)
             go_wp2_with fail
             go_roundw
             case rel => exact ⟨k + 1, by omega, by go_num, fun j hj => by
               by_cases hjk : j < k
               · exact HW.out.1 j hjk
               · obtain rfl : j = k := by omega
                 exact HOK.out, below_drawn HW.out.2 _⟩
             case measure => simp [intOf]; omega
   · obtain rfl : k = m := by omega
     have ik : ¬ (k : Int) < (k : Int) := by omega
     have hrd : r = (decide (0 < k) && decide (k < 8)) := by
       rw [HM.out.2.2]
       have hl := HM.out.1
       cases hmy : mayC zs with
       | false =>
         have hn : ¬ MayC zs := fun e => by rw [(mayC_iff zs).2 e] at hmy; cases hmy
         by_cases h1 : 0 < k
         · by_cases h2 : k < 8
           · exact absurd ⟨⟨by omega, by omega⟩, fun j hj => HW.out.1 j (by omega)⟩ hn
           · simp [h2]
         · simp [h1]
       | true =>
         have := ((mayC_iff zs).1 hmy).1
         simp only [decide_eq_true (show 0 < k by omega), decide_eq_true (show k < 8 by omega), Bool.and_self]
     by_cases h1 : 0 < k
     · by_cases h2 : k < 8
       · have hrt : r = true := by rw [hrd]; simp [h1, h2]
         have i8 : (k : Int) < 8 := by omega
         subst hrt
         clear hrd
         go_wp2_with fail
         go_ret
         exact ⟨rfl, HW.out.2⟩
       · have hrt : r = false := by rw [hrd]; simp [h2]
         have i8 : ¬ (k : Int) < 8 := by omega
         subst hrt
         clear hrd
         go_wp2_with fail
         go_ret
         exact ⟨rfl, HW.out.2⟩
     · have hrt : r = false := by rw [hrd]; simp [h1]
       subst hrt
       clear hrd
       go_wp2_with fail
       go_ret
       exact ⟨rfl, HW.out.2⟩
end
section
set_option maxHeartbeats 2000000 in
theorem ints_any (A : Option Addr) (m c : Nat) (zs : List Int) (A' : Option Addr) (m' c' : Nat) (ys : List Int) (w : World) (h : Ints w (.slice A m c) zs) (h' : Ints w (.slice A' m' c') ys) (r : Bool) (hr : r = decide (zs = ys)) :
   Calls Tryz.prog 33 #[.slice A m c, .slice A' m' c'] w fun y w' => y = .returned (.bool r) ∧ Below w.heap.size w w' := by
 obtain ⟨hm, hmc, hcm, hat⟩ := h.at_
 obtain ⟨hm', hmc', hcm', hat'⟩ := h'.at_
 have im : (m : Int) ≤ 9223372036854775807 := by omega
 by_cases hl : m = m'
 · subst hl
   have HM := jI (jA hm (jA hat hr))
   have HM' := jI (jA hm' hat')
   clear h h' hm hmc hcm hat hr hm' hmc' hcm' hat'
   go_enter Tryz.func33, Tryz.ntmps33
   go_wp2_with fail
   go_loopw [5] (fun ii wr => ∃ k : Nat, k ≤ m ∧ ii = .int .i64 (k : Int) ∧ (∀ j, j < k → zs.getD j 0 = ys.getD j 0) ∧ Below w.heap.size w wr) (fun ii _ => m - (intOf ii).toNat)
   case atStart => exact ⟨0, Nat.zero_le _, rfl, fun j hj => absurd hj (Nat.not_lt_zero j), Below.refl _ _⟩
   case round =>
     obtain ⟨k, hk, rfl, hsame, hbw⟩ := hrel
     have HW := jI (jA hsame hbw)
     clear hsame hbw
     by_cases hlt : k < m
     · obtain ⟨b, off, rfl, hb, hc⟩ := HM.out.2.1 (by omega)
       obtain ⟨b', off', rfl, hb', hc'⟩ := HM'.out.2 (by omega)
       have g1 := (HW.out.2.cell (p := ⟨b, off + k, none⟩) hb).trans (hc k hlt)
       have g2 := (HW.out.2.cell (p := ⟨b', off' + k, none⟩) hb').trans (hc' k hlt)
       obtain ⟨x, hx⟩ : ∃ x, x = zs.getD k 0 := ⟨_, rfl⟩
       obtain ⟨y, hy⟩ : ∃ y, y = ys.getD k 0 := ⟨_, rfl⟩
       rw [← hx] at g1
       rw [← hy] at g2
       have HXY := jI (jA hx hy)
       have ik : (k : Int) < (m : Int) := by omega
       have ik0 : (0 : Int) ≤ (k : Int) := by omega
       clear hb hc hb' hc' hx hy
       by_cases hxy : x = y
       · subst hxy
         go_wp2_with fail
         go_region
         all_goals go_wp2_with fail
         go_roundw
         case rel => exact ⟨k + 1, by omega, by go_num, fun j hj => by
           by_cases hjk : j < k
           · exact HW.out.1 j hjk
           · obtain rfl : j = k := by omega
             exact HXY.out.1.symm.trans HXY.out.2, HW.out.2.drew⟩
         case measure => simp [intOf]; omega
       · have hrf : r = false := by
           rw [HM.out.2.2]
           refine decide_eq_false fun e => hxy ?_
           rw [HXY.out.1, HXY.out.2, e]
         subst hrf
         have hxb : (x == y) = false := by rw [beq_eq_false_iff_ne]; exact hxy
         clear hxy
         go_wp2_with fail
         go_region
         all_goals go_wp2_with fail
         go_ret
         exact ⟨rfl, HW.out.2.drew⟩
     · obtain rfl : k = m := by omega
       have ik : ¬ (k : Int) < (k : Int) := by omega
       have hrt : r = true := by
         rw [HM.out.2.2]
         refine decide_eq_true (List.ext_getElem? fun j => ?_)
         by_cases hj : j < k
         · have e := HW.out.1 j hj
           have h1 := HM.out.1
           have h2 := HM'.out.1
           simp only [List.getD, List.getElem?_eq_getElem (show j < zs.length by omega), List.getElem?_eq_getElem (show j < ys.length by omega), Option.getD_some] at e
           rw [List.getElem?_eq_getElem (show j < zs.length by omega), List.getElem?_eq_getElem (show j < ys.length by omega), e]
         · rw [List.getElem?_eq_none (by have := HM.out.1; omega), List.getElem?_eq_none (by have := HM'.out.1; omega)]
       subst hrt
       go_wp2_with fail
       go_ret
       exact ⟨rfl, HW.out.2⟩
 · have hr' : r = false := by rw [hr]; exact decide_eq_false (fun e => hl (by rw [hm, hm', e]))
   subst hr'
   have il : ¬ (m : Int) = (m' : Int) := by omega
   clear hl h h' hr hm hm' hmc hcm hmc' hcm' hat hat'
   go_enter Tryz.func33, Tryz.ntmps33
   go_wp2_with fail
   go_ret
   exact ⟨rfl, Below.refl _ _⟩
end
section
def prevC (zs : List Int) (k : Nat) : Int := if k = 0 then 0 else zs.getD (k - 1) 0
theorem okC_prev {zs : List Int} {k : Nat} (h : ∀ j, j < k → okC zs j) : okC zs k ↔ prevC zs k < zs.getD k 0 ∧ zs.getD k 0 ≤ 64 := by
 unfold okC prevC
 by_cases hk : k = 0
 · subst hk
   rw [if_pos rfl]
   exact ⟨fun e => ⟨by omega, e.2.1⟩, fun e => ⟨by omega, e.2, fun h => absurd h (by omega)⟩⟩
 · rw [if_neg hk]
   have h1 := (h (k - 1) (by omega)).1
   exact ⟨fun e => ⟨e.2.2 (by omega), e.2.1⟩, fun e => ⟨by omega, e.2, fun _ => e.1⟩⟩
theorem prevC_next {zs : List Int} {k : Nat} : prevC zs (k + 1) = zs.getD k 0 := by unfold prevC; rw [if_neg (by omega)]; rfl
set_option maxHeartbeats 2000000 in
theorem may_own (A : Option Addr) (m c : Nat) (zs : List Int) (w : World) (h : Ints w (.slice A m c) zs) (r : Bool) (hr : r = mayC zs) :
   Calls Tryz.prog 38 #[.slice A m c] w fun y w' => y = .returned (.bool r) ∧ w = w' := by
 obtain ⟨hm, hmc, hcm, hat⟩ := h.at_
 have im : (m : Int) ≤ 9223372036854775807 := by omega
 by_cases h0 : m = 0
 · have hrf : r = false := by
     rw [hr]
     cases hx : mayC zs with
     | false => rfl
     | true => have := ((mayC_iff zs).1 hx).1; omega
   subst hrf
   have i0 : (m : Int) = 0 := by omega
   subst h0
   clear h hm hmc hcm hat hr im
   go_enter Tryz.func38, Tryz.ntmps38
   go_wp2_with fail
   go_ret
   exact ⟨rfl, rfl⟩
 · by_cases h7 : 7 < m
   · have hrf : r = false := by
       rw [hr]
       cases hx : mayC zs with
       | false => rfl
       | true => have := ((mayC_iff zs).1 hx).1; omega
     subst hrf
     have i0 : ¬ (m : Int) = 0 := by omega
     have i7 : (7 : Int) < (m : Int) := by omega
     clear h hm hmc hcm hat hr
     go_enter Tryz.func38, Tryz.ntmps38
     go_wp2_with fail
     go_ret
     exact ⟨rfl, rfl⟩
   · obtain ⟨b, off, rfl, hb, hc⟩ := hat (by omega)
     have HM := jI (jA hm (jA hc (jA hr (jA h0 h7))))
     have i0 : ¬ (m : Int) = 0 := by omega
     have i7 : ¬ (7 : Int) < (m : Int) := by omega
     clear h hm hmc hcm hat hr hb hc h0 h7
     go_enter Tryz.func38, Tryz.ntmps38
     go_wp2_with fail
     go_loopw [3, 16] (fun pp ii wr => ∃ k : Nat, k ≤ m ∧ ii = .int .i64 (k : Int) ∧ pp = .int .i64 (prevC zs k) ∧ (∀ j, j < k → okC zs j) ∧ w = wr) (fun _ ii _ => m - (intOf ii).toNat)
     case atStart => exact ⟨0, Nat.zero_le _, rfl, rfl, fun j hj => absurd hj (Nat.not_lt_zero j), rfl⟩
     case round =>
       obtain ⟨k, hk, rfl, rfl, hok, rfl⟩ := hrel
       have HK := jI (jA hok (okC_prev hok))
       clear hok
       by_cases hlt : k < m
       · have g1 := HM.out.2.1 k hlt
         have ik : (k : Int) < (m : Int) := by omega
         have ik0 : (0 : Int) ≤ (k : Int) := by omega
         obtain ⟨z, hz⟩ : ∃ z, z = zs.getD k 0 := ⟨_, rfl⟩
         obtain ⟨p, hp⟩ : ∃ p, p = prevC zs k := ⟨_, rfl⟩
         rw [← hz] at g1
         rw [← hp]
         have HZ := jI (jA hz hp)
         clear hz hp
         have bad : ¬ (p < z ∧ z ≤ 64) → r = false := fun hn => by
           rw [HM.out.2.2.1]
           cases hmy : mayC zs with
           | false => rfl
           | true =>
             refine absurd (HK.out.2.1 (((mayC_iff zs).1 hmy).2 k (by have := HM.out.1; omega))) ?_
             rw [← HZ.out.1, ← HZ.out.2]
             exact hn
         by_cases h1 : z ≤ p
         · have hrf := bad (by omega)
           subst hrf
           clear bad
           go_wp2_with fail
           go_ret
           exact ⟨rfl, rfl⟩
         · by_cases h2 : 64 < z
           · have hrf := bad (by omega)
             subst hrf
             clear bad
             go_wp2_with fail
             go_ret
             exact ⟨rfl, rfl⟩
           · have HOK := jI (HK.out.2.2 (by rw [← HZ.out.1, ← HZ.out.2]; omega))
             clear bad
             go_wp2_with fail
             go_roundw
             case rel => exact ⟨k + 1, by omega, by go_num, by rw [prevC_next, HZ.out.1], fun j hj => by
               by_cases hjk : j < k
               · exact HK.out.1 j hjk
               · obtain rfl : j = k := by omega
                 exact HOK.out, trivial⟩
             case measure => simp [intOf]; omega
       · obtain rfl : k = m := by omega
         have ik : ¬ (k : Int) < (k : Int) := by omega
         have hrt : r = true := by
           rw [HM.out.2.2.1]
           exact (mayC_iff zs).2 ⟨by have := HM.out.1; have := HM.out.2.2.2; omega, fun j hj => HK.out.1 j (by have := HM.out.1; omega)⟩
         subst hrt
         go_wp2_with fail
         go_ret
         exact ⟨rfl, rfl⟩
end
end Go.Proofs.YtncaefocijainaaGreatDoor.pk
