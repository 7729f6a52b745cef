import Derived.Test.YtncaefocijainaaGreatDoorG29
import Derived.Test.YtncaefocijainaaGreatDoorG35
import Derived.Test.YtncaefocijainaaGreatDoorG23
import Derived.RangeFuncNested
import Derived.RangeFuncBound
import Derived.RangeFuncCalls
import Derived.RangeFuncLeaves
import Derived.Shelf.Abstract
import Derived.Shelf.RegionOpen
import Derived.OwnWalkIn
import Derived.TacticsInMore
import Derived.LoopNIn
import Derived.LoopIn
import Derived.Test.YtncaefocijainaaGreatDoorG30
import Derived.Lib.SliceRun
import Derived.Test.YtncaefocijainaaGreatDoorG28
import Derived.Test.YtncaefocijainaaGreatDoorG13
namespace Go.Proofs.YtncaefocijainaaGreatDoor.pk
section
open Go Go.RowKit
open Go.Maps (Keyed)
set_option maxRecDepth 100000
section
variable {w w' w2 : World} {T T' U : Nat → Prop} {p : Nat} {c : Co} {q : Pl}
structure OnlyP (p : Nat) (w w' : World) : Prop where
 os : w'.os = w.os
 tape : w'.tape = w.tape
 output : w'.output = w.output
 size : w'.heap.size = w.heap.size
 block : ∀ k, k ≠ p → w'.heap[k]? = w.heap[k]?
theorem OnlyP.refl (p : Nat) (w : World) : OnlyP p w w := ⟨rfl, rfl, rfl, rfl, fun _ _ => rfl⟩
theorem OnlyP.set (h : OnlyP p w w') (i : Nat) (v : Value) : OnlyP p w (w'.setCell ⟨p, i, none⟩ v) :=
 ⟨h.os, h.tape, h.output, by rw [World.size_setCell]; exact h.size, fun k hk => (setc_oth v hk).trans (h.block k hk)⟩
theorem CB.all (h : CB w T U p c q) : w.cell? ⟨p, 0, none⟩ = some (.int .i64 c.id) ∧ w.cell? ⟨p, 1, none⟩ = some (.int .i64 c.span) ∧ w.cell? ⟨p, 2, none⟩ = some (.int .i64 c.s.term) ∧ w.cell? ⟨p, 3, none⟩ = some (.int .i64 c.s.vote) ∧
   w.cell? ⟨p, 4, none⟩ = some (.int .i64 c.s.log.base) ∧ w.cell? ⟨p, 5, none⟩ = some (.int .i64 c.s.log.term) ∧ w.cell? ⟨p, 6, none⟩ = some (.slice q.AL q.nL q.cL) ∧ w.cell? ⟨p, 7, none⟩ = some (.slice q.AC q.nC q.cC) ∧ w.cell? ⟨p, 8, none⟩ = some (.slice q.AS q.nS q.cS) ∧
   w.cell? ⟨p, 9, none⟩ = some (.int .i64 c.role) ∧ w.cell? ⟨p, 10, none⟩ = some (.int .i64 c.leader) ∧ w.cell? ⟨p, 11, none⟩ = some (.int .i64 c.commit) ∧ w.cell? ⟨p, 12, none⟩ = some (.int .i64 c.round) ∧ w.cell? ⟨p, 13, none⟩ = some (.int .i64 c.gone) ∧ w.cell? ⟨p, 14, none⟩ = some (.int .i64 c.wait) ∧
   w.cell? ⟨p, 15, none⟩ = some (.slice q.AV q.nV q.cV) ∧ w.cell? ⟨p, 16, none⟩ = some (.map q.mp) ∧ w.cell? ⟨p, 17, none⟩ = some (.int .i64 c.key) ∧ w.cell? ⟨p, 18, none⟩ = some (.slice q.AH q.nH q.cH) :=
 ⟨h.get rfl, h.get rfl, h.get rfl, h.get rfl, h.get rfl, h.get rfl, h.get rfl, h.get rfl, h.get rfl, h.get rfl, h.get rfl, h.get rfl, h.get rfl, h.get rfl, h.get rfl, h.get rfl, h.get rfl, h.get rfl, h.get rfl⟩
end
theorem u64_nn {x : Int} (h0 : 0 ≤ x) (h1 : x ≤ 1000000) : (u64 x : Int) = x := u64_pos h0 (by omega)
set_option maxHeartbeats 4000000 in
theorem rrest_any (T U : Nat → Prop) (p : Nat) (c : Co) (q : Pl) (draw : Int) (w : World) (h : CB w T U p c q) (hsp : 2 ≤ c.span ∧ c.span ≤ 1000) :
   Calls Tryz.prog 104 #[.pointer (some ⟨p, 0, none⟩), .int .i64 draw] w fun e w' => e = .returned (.tuple #[]) ∧ CB w' T U p (rest c draw) q ∧ OnlyP p w w' := by
 obtain ⟨z0, z1, z2, z3, z4, z5, z6, z7, z8, z9, z10, z11, z12, z13, z14, z15, z16, z17, z18⟩ := h.all
 have f13 := h.fz 13
 have f14 := h.fz 14
 have H := jI h
 obtain ⟨sp, hspn⟩ : ∃ sp, sp = c.span := ⟨_, rfl⟩
 rw [← hspn] at z1 hsp
 have kd := wrap_u64 draw
 have ks : IntKind.u64.wrap (sp + 1) = sp + 1 := by rw [wrap_u64, u64_nn (by omega) (by omega)]
 obtain ⟨u, hu⟩ : ∃ u, u = u64 draw := ⟨_, rfl⟩
 rw [← hu] at kd
 obtain ⟨r, hr⟩ : ∃ r : Int, r = (u : Int) % (sp + 1) := ⟨_, rfl⟩
 have hr0 : 0 ≤ r := by rw [hr]; exact Int.emod_nonneg _ (by omega)
 have hr1 : r < sp + 1 := by rw [hr]; exact Int.emod_lt_of_pos _ (by omega)
 have kr : (u : Int).tmod (sp + 1) = r := by rw [hr, Int.tmod_eq_emod_of_nonneg (by omega)]
 have kr2 : (u : Int) % (sp + 1) = r := hr.symm
 have kw : IntKind.i64.wrap r = r := by rw [IntKind.wrap_i64]; omega
 have kw2 : IntKind.u64.wrap r = r := by rw [wrap_u64, u64_nn (by omega) (by omega)]
 have hsp1 := hsp.1
 have hsp2 := hsp.2
 have hwt : waitC c.span draw = sp + r := by
   unfold waitC
   rw [← hspn, hr, ← hu]
   have h3 : u64 (sp + 1) = (sp + 1).toNat := by have := u64_nn (x := sp + 1) (by omega) (by omega); omega
   rw [h3]
   have h4 : ((u % (sp + 1).toNat : Nat) : Int) = (u : Int) % ((sp + 1).toNat : Int) := Int.natCast_emod _ _
   rw [h4, Int.toNat_of_nonneg (by omega)]
 have HX := jI (jA hspn hwt)
 clear h z0 z2 z3 z4 z5 z6 z7 z8 z9 z10 z11 z12 z15 z16 z17 z18 hspn hu hr hwt hsp
 go_enter Tryz.func104, Tryz.ntmps104
 go_wp2_with fail
 go_end0
 have ho : OnlyP p w ((w.setCell ⟨p, 13, none⟩ (.int .i64 0)).setCell ⟨p, 14, none⟩ (.int .i64 (sp + r))) := ((OnlyP.refl p w).set 13 _).set 14 _
 refine ⟨rfl, H.out.put ?_ ho.block ho.size rfl rfl rfl rfl rfl rfl H.out.lead, ho⟩
 rw [← HX.out.2]
 exact setc (setc H.out.cells _) _
end
end Go.Proofs.YtncaefocijainaaGreatDoor.pk
