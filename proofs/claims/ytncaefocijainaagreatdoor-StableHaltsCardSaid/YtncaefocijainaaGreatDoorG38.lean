import Derived.Test.YtncaefocijainaaGreatDoorRows
import Derived.Test.YtncaefocijainaaGreatDoorG06
import Derived.Deep.Draws
import Derived.ProofKit
import Derived.OpenShut
import Derived.LaidMore
import Derived.LaidHandle
import Derived.Stop.LaidErr
import Derived.Deep.DeepHandedRow
import Derived.Deep.DeepWitnessRowRef
import Derived.Deep.Strs
import Derived.Lib.SmallJoins
import Derived.SevenTiedAt
namespace Go.Proofs.YtncaefocijainaaGreatDoor.pk
section
open Go Go.RowKit Go.ChangeShapes Go.WideShapes Go.ChangeAt
set_option maxRecDepth 100000
theorem own : ownKnob Tryz.prog.godebug = none := by kernel_rfl
theorem laid_one {P : Program} {x : String × DataW Unit} {r : List (String × DataW Unit)} {w : World} (h : laidMet P (x :: r) w) : laidMet P [x] w := by
 obtain ⟨ps, ⟨g, t, cs, fuel, p, q, h1, h2, h3, h4, _, rfl⟩, hnd, hr⟩ := h
 refine ⟨MemPlace.row ⟨g, 0, none⟩ cs.size ++ p ++ [], ⟨g, t, cs, fuel, p, [], h1, h2, h3, h4, rfl, rfl⟩, ?_, fun b off hm => hr b off ?_⟩
 · rw [List.append_nil]; exact List.Nodup.sublist (List.sublist_append_left _ _) hnd
 · rw [List.append_nil] at hm; exact List.mem_append_left _ hm
theorem laid_mem {P : Program} {x : String × DataW Unit} {w : World} : ∀ {l : List (String × DataW Unit)}, laidMet P l w → x ∈ l → laidMet P [x] w
 | [], _, hx => by cases hx
 | y :: r, h, hx => by
   rcases List.mem_cons.1 hx with rfl | hx
   · exact laid_one h
   · exact laid_mem h.tail hx
theorem cU8 : Tryz.prog.cellsOf 5 = 1 := by kernel_rfl
theorem sl_of_trod {H : Type} {enc : TypeId × Value → H} {W : World} {held : Bool} {fuel : Nat} {v : Value} {y : DataW H × List MemPlace}
   (h : DataW.trod enc Tryz.prog W 0 (fun _ => true) held fuel 33 [v] = some y) :
   ∃ A n c bs, v = .slice A n c ∧ Sl W W.heap.size (.slice A n c) bs ∧ ((y.1 = .nil ∧ bs = []) ∨ ∃ es sp, y.1 = .slice es sp ∧ es.length = bs.length) := by
 rcases open_ints Tryz.underlying33 Tryz.underlying5 cU8 h with ⟨hcs, hx⟩ | ⟨a, len, cap, zs, hcs, _, hl, hm, hz, hx, hcell, hwz⟩
 · simp only [List.cons.injEq, and_true] at hcs
   subst hcs
   exact ⟨none, 0, 0, [], rfl, Sl.nil_ _ _, Or.inl ⟨by rw [hx], rfl⟩⟩
 · simp only [List.cons.injEq, and_true] at hcs
   subst hcs
   have hzl : len ≤ zs.length := by
     rw [hz]
     exact hl
   have hlen : ((zs.take len).map fun z => UInt8.ofNat z.toNat).length = len := by rw [List.length_map, List.length_take]; omega
   refine ⟨some a, len, cap, (zs.take len).map fun z => UInt8.ofNat z.toNat, rfl, ⟨some a, cap, by rw [hlen], by rw [hlen]; exact hl, by simp only [maxLen] at hm; omega, ?_⟩, Or.inr ⟨_, _, by rw [hx], ?_⟩⟩
   · by_cases h0 : len = 0
     · left
       exact List.eq_nil_of_length_eq_zero (by rw [hlen]; exact h0)
     · right
       obtain ⟨b, off, rfl, hc⟩ := ints_at hcell (by omega)
       have hb : b < W.heap.size := World.block_lt_of_cell? W ⟨b, off + 0, none⟩ (hc 0 (by omega))
       refine ⟨b, off, rfl, hb, fun j hj => ?_⟩
       rw [hlen] at hj
       rw [hc j (by omega)]
       have hmem : zs[j]'(by omega) ∈ zs := List.getElem_mem _
       have hw := hwz _ hmem
       have hr := bounds_u8 hw
       simp [List.getD, List.getElem?_eq_getElem (show j < zs.length by omega), hj]
       omega
   · rw [hlen]
     simp [lits, List.length_take]
     omega
theorem laidOut : laidOutB Tryz.prog = true := by kernel_rfl
theorem trodAll_below {P : Program} (hl : laidOutB P = true) {H : Type} {enc : TypeId × Value → H} {W W' : World} (hb : Below W.heap.size W W') : ∀ {ts : List TypeId} {vs : List Value} {ds : List (DataW H)} {p : List MemPlace},
   (ts.all fun t => P.readableRec t && decide (t < P.types.size)) = true → DataW.TrodAll enc P W 0 (fun _ => true) true ts vs ds p → (∀ x ∈ p, x.block < W.heap.size) →
   DataW.TrodAll enc P W' 0 (fun b => decide (b < W.heap.size)) true ts vs ds p
 | [], vs, ds, p, _, h, _ => by
   obtain ⟨rfl, rfl, rfl⟩ := trodAll_nil h
   exact trodAll_mk0
 | t :: ts, vs, ds, p, ht, h, hlt => by
   obtain ⟨v0, vs0, d0, ds0, p0, q0, rfl, rfl, rfl, h0, r0⟩ := trodAll_cons h
   rw [List.all_cons, Bool.and_eq_true, Bool.and_eq_true] at ht
   exact trodAll_cons_mk (Below.trod hl ht.1.1 (of_decide_eq_true ht.1.2) h0 hb (fun x hx => hlt x (List.mem_append_left _ hx))) (trodAll_below hl hb ht.2 r0 (fun x hx => hlt x (List.mem_append_right _ hx)))
theorem law_post {H : Type} {enc : TypeId × Value → H} {f : Func} {s : ChangeSpec} {W W' : World} {args : Array Value} {ds gs : List (DataW H)} {before : List MemPlace} (hv : s.vars = []) (hres : f.resultTypes = #[4])
   (hfn : s.fn H (ds ++ gs) = { results := [.lit (.bool true)], args := ds }) (hts : (f.params.toList.all fun t => Tryz.prog.readableRec t && decide (t < Tryz.prog.types.size)) = true)
   (hW : DataW.Whole enc Tryz.prog f.params.toList s.vars false W args.toList ds gs before) (hb : Below W.heap.size W W') : s.post enc Tryz.prog f false true false false W args (.bool true) W' := by
 have hlt : ∀ x ∈ before, x.block < W.heap.size := fun x hx => hW.lt x hx
 obtain ⟨p, q, hA, hV, hpq, hfz, hnd⟩ := hW
 have hV0 := hV
 rw [hv] at hV
 obtain ⟨hg, hq⟩ := trodVars_none hV
 subst hg; subst hq
 rw [List.append_nil] at hpq
 subst hpq
 refine ⟨ds, [], before, [], before, [], ⟨before, [], hA, hV0, by simp, hfz, hnd⟩, ?_, ?_, ?_, hb.frame _, fun h => by cases h⟩
 · rw [hfn, hres]
   exact trodAll_cons_mk (shut_bool Tryz.underlying4 true) trodAll_mk0
 · rw [hfn]
   exact trodAll_below laidOut hb hts hA hlt
 · rw [hfn, hv]
   rfl
end
end Go.Proofs.YtncaefocijainaaGreatDoor.pk
