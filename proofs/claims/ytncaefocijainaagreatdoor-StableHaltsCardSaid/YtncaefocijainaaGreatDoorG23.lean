import Derived.Test.YtncaefocijainaaGreatDoorG22
import Derived.Sort.WalkA
import Derived.Lib.OwnBridge
import Derived.Deep.RegionLaw
import Derived.Lib.SlicesDelete
import Derived.Lib.SliceRun
namespace Go.Proofs.YtncaefocijainaaGreatDoor.pk
section
open Go Go.RowKit Go.Lib Go.Sort
set_option maxRecDepth 100000
set_option maxHeartbeats 4000000 in
theorem clone_own (A : Option Addr) (m c : Nat) (zs : List Int) (w : World) (h : Ints w (.slice A m c) zs) (h0 : 0 < m) (h1 : m ≤ 1000) :
   Calls Tryz.prog 78 #[.slice A m c] w fun y w' => ∃ g k, y = .returned (.slice (some ⟨g, 0, none⟩) m k) ∧ w'.ownsRow w.heap.size 3 1 (.slice (some ⟨g, 0, none⟩) m k) m (zs.map (Value.int .i64)) ∧ Below w.heap.size w w' := by
 obtain ⟨i0, hi, hz0, hz1, hz2⟩ := info_three info_int
 obtain ⟨hm, hmc, hcm, hat⟩ := h.at_
 obtain ⟨b, off, rfl, -, -⟩ := hat h0
 have hq := fun (w : World) (n' c' : Nat) => Lib.run_eql_slice_nil (P := Tryz.prog) w 32 3 (some ⟨b, off, none⟩) m c n' c' Tryz.underlying32
 have H := jI (jA h (jA hm (jA h0 h1)))
 have HI := jI (jA hi (jA hz0 (jA hz1 hz2)))
 clear h hm hmc hcm hat h0 h1 hi hz0 hz1 hz2
 go_enter Tryz.func78, Tryz.ntmps78
 go_wp2_with (at_builtin; go_must (refine wpList_append_row rfl _ _ 32 rfl w.heap.size 3 i0 _ 1 8 Tryz.underlying32 HI.out.1 HI.out.2.1 HI.out.2.2.1 HI.out.2.2.2 rfl (by omega) (.slice (some ⟨w.heap.size, 0, none⟩) 0 0) 0 [] rfl (World.ownsRow_made w #[] 0 (Nat.le_refl _) (by simp [maxLen]) rfl) (fun _ => True) (some ⟨b, off, none⟩) m c (zs.map (Value.int .i64)) rfl ?c1 ?c2 ?c3 ?c4 ?c5 ?c6))
 case c1 => exact RowT.mono (by have h2 := (H.out.1.below (below_alloc w (.cells #[] 3))).1; unfold IntsT at h2; rw [← H.out.2.1] at h2; exact h2) fun _ _ => trivial
 case c2 => intro u hu; obtain ⟨z, _, rfl⟩ := List.mem_map.1 hu; rfl
 case c3 => have := H.out.2.2.2; simp only [maxLen]; omega
 case c4 => have := H.out.2.2.2; omega
 case c5 => rw [World.size_alloc]; omega
 case c6 =>
   intro v' w' ho hg
   try rw [List.nil_append] at ho
   try rw [Nat.zero_add] at ho
   have hb2 := ((Below.refl w.heap.size w).alloc (Nat.le_refl _) (.cells #[] 3)).grown hg (by rw [World.size_alloc]; omega) (fun k hk => by injection hk with hk; rw [← hk]; exact Nat.le_refl _)
   have hnil : v' ≠ .slice none 0 0 := by
     intro e
     subst e
     rcases ho.2 with ⟨_, e⟩ | ⟨g, cap, cur, e, _⟩
     · have := H.out.2.2.1
       omega
     · cases e
   obtain ⟨g, k, rfl, -⟩ := Lib.holds_of_ownsRow ho hnil
   clear hnil
   have HF := jI (jA ho hb2)
   clear ho hg hb2
   go_wp2_with fail
   go_ret
   exact ⟨g, k, rfl, HF.out.1, HF.out.2⟩
end
end Go.Proofs.YtncaefocijainaaGreatDoor.pk
