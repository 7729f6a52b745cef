import Derived.Test.YtncaefocijainaaGreatDoorG14
import Derived.Test.YtncaefocijainaaGreatDoorG03
import Derived.Test.YtncaefocijainaaGreatDoorG11
import Derived.StillTailTactics
namespace Go.Proofs.YtncaefocijainaaGreatDoor.pk
open Go Go.RowKit
set_option maxRecDepth 100000
section
theorem info_w : (Tryz.prog.info? 110).map (fun i => (i.zero, i.size, i.bytes)) = some (some (.agg #[.int .i64 0, .slice none 0 0]), 2, 32) := by kernel_rfl
theorem size_u8 : (Tryz.prog.info? 5).map (·.size) = some 1 := by kernel_rfl
theorem byteCells_len (x : List UInt8) : (Lib.byteCells x).length = x.length := by simp [Lib.byteCells]
theorem byteCells_one (x : List UInt8) : ∀ v ∈ Lib.byteCells x, v.oneCell' = true := by
 intro v hv
 simp [Lib.byteCells] at hv
 obtain ⟨y, -, rfl⟩ := hv
 rfl
theorem sl_src {w w' : World} {T : Nat → Prop} {A : Option Addr} {n c : Nat} {x : List UInt8} (h : SlT w T (.slice A n c) x) (hn : n = x.length) (hw : ∀ b, b < w.heap.size → w'.heap[b]? = w.heap[b]?) (h0 : 0 < (Lib.byteCells x).length) :
   ∃ ad, A = some ad ∧ ∀ j v, (Lib.byteCells x)[j]? = some v → w'.cell? (ad.add j) = some v := by
 rw [byteCells_len] at h0
 obtain ⟨b, o, rfl, hc⟩ := sl_at h hn.symm (by omega)
 refine ⟨_, rfl, fun j v hj => ?_⟩
 rw [byteCells_get] at hj
 obtain ⟨y, hy, rfl⟩ := Option.map_eq_some_iff.1 hj
 have hjl := (List.getElem?_eq_some_iff.1 hy).1
 rw [Lib.add_plain]
 have h1 := hc j (by omega)
 have hb : w.cell? ⟨b, o + j, none⟩ = some (.int .u8 (y.toNat : Int)) := by simpa [List.getD, hy] using h1
 exact (World.cell?_of_block (w := w) (a := ⟨b, o + j, none⟩) (hw b (World.block_lt_of_cell? w ⟨b, o + j, none⟩ hb))).trans hb
theorem own_src {w : World} {e g n c at_ k : Nat} {x : List UInt8} (h : w.ownsRow 0 e 1 (.slice (some ⟨g, 0, none⟩) n c) n (Lib.byteCells x)) (j : Nat) (v : Value) (hj : (Lib.byteCells ((x.drop at_).take k))[j]? = some v) :
   w.cell? ((⟨g, at_, none⟩ : Addr).add j) = some v := by
 rw [byteCells_get, List.getElem?_take] at hj
 split at hj
 · rw [List.getElem?_drop] at hj
   have := h.cells (g := g) rfl (at_ + j) v (by rw [byteCells_get]; exact hj)
   rw [Lib.add_plain, Nat.zero_add] at this
   rw [Lib.add_plain]
   exact this
 · cases hj
section
variable {w w' : World} {S : Nat → Prop} {p gn gs nc sc n : Nat} {vw : Value} {cs : List Value} {nowb safeb : List UInt8} {L : List (Nat × List UInt8)} {off ar : Bool} {ah : Int}
theorem Rep.elem (h : Rep w S p gn gs nc sc n vw cs nowb safeb L off ar ah) (i : Nat) (hi : i < L.length) : ∃ gw c Ab cb, vw = .slice (some ⟨gw, 0, none⟩) L.length c ∧ gw < w.heap.size ∧ w.cell? ⟨gw, i * 2, none⟩ = some (.int .i64 (L[i].1 : Int)) ∧
   w.cell? ⟨gw, i * 2 + 1, none⟩ = some (.slice Ab L[i].2.length cb) ∧ SlT w (Rest S p gn gs vw) (.slice Ab L[i].2.length cb) L[i].2 := by
 obtain ⟨h1, u, h2, h3⟩ := h.elems i hi
 obtain ⟨Ab, cb, rfl, _⟩ := id h3
 rcases h.rows.2 with ⟨_, h0⟩ | ⟨g, cap, cur, hv, hb, hg, _⟩
 · omega
 · have hc := h.rows.cells (g := g) (by rw [hv]; rfl)
   refine ⟨g, cap, Ab, cb, hv, (Array.getElem?_eq_some_iff.1 hg).1, ?_, ?_, h3⟩
   · have := hc (2 * i) _ h1
     rwa [Lib.add_plain, Nat.mul_comm, Nat.zero_add] at this
   · have := hc (2 * i + 1) _ h2
     rwa [Lib.add_plain, Nat.mul_comm, Nat.zero_add] at this
theorem Rep.putSafe (h : Rep w S p gn gs nc sc n vw cs nowb safeb L off ar ah) {sb : List UInt8} (ho : w'.ownsRow 0 5 1 (.slice (some ⟨gs, 0, none⟩) n sc) n (Lib.byteCells sb)) (hg : w.grownBy w' (some gs)) : Rep w' S p gn gs nc sc n vw cs nowb sb L off ar ah := by
 have hk : ∀ k, k ≠ gs → k < w.heap.size → w'.heap[k]? = w.heap[k]? := fun k hk hl => hg.block k hl (fun e => hk (by injection e))
 refine ⟨(hk p h.d2 (h.foot p h.sp)).trans h.box, own_block h.now fun g hg => ?_, ho, own_block h.rows fun g hg => hk g (h.d4 g hg).2.2 (h.foot g (h.sw g hg)), h.elems.kept fun k hk' hl => hk k hk'.2.2.2.1 hl, h.d1, h.d2, h.d3, h.d4, h.sp, h.sn, h.ss, h.sw, fun k hk' => Nat.lt_of_lt_of_le (h.foot k hk') hg.size⟩
 injection hg with e; rw [← e]; exact hk gn h.d3 (h.foot gn h.sn)
theorem Rep.putNow (h : Rep w S p gn gs nc sc n vw cs nowb safeb L off ar ah) {nb : List UInt8} (ho : w'.ownsRow 0 5 1 (.slice (some ⟨gn, 0, none⟩) n nc) n (Lib.byteCells nb)) (hg : w.grownBy w' (some gn)) : Rep w' S p gn gs nc sc n vw cs nb safeb L off ar ah := by
 have hk : ∀ k, k ≠ gn → k < w.heap.size → w'.heap[k]? = w.heap[k]? := fun k hk hl => hg.block k hl (fun e => hk (by injection e))
 refine ⟨(hk p h.d1 (h.foot p h.sp)).trans h.box, ho, own_block h.safe fun g hg => ?_, own_block h.rows fun g hg => hk g (h.d4 g hg).2.1 (h.foot g (h.sw g hg)), h.elems.kept fun k hk' hl => hk k hk'.2.2.1 hl, h.d1, h.d2, h.d3, h.d4, h.sp, h.sn, h.ss, h.sw, fun k hk' => Nat.lt_of_lt_of_le (h.foot k hk') hg.size⟩
 injection hg with e; rw [← e]; exact hk gs h.d3.symm (h.foot gs h.ss)
theorem kept_grown {S : Nat → Prop} {g : Nat} (hg : S g) (h : w.grownBy w' (some g)) : Kept S w w' := ⟨h.os, h.tape, h.output, h.size, fun k hl hn => h.block k hl (fun e => hn (by injection e with e; rw [e]; exact hg))⟩
theorem kept_rows {S : Nat → Prop} {v : Value} (hs : ∀ g, v.ownBlock = some g → S g) (h : w.grownBy w' v.ownBlock) : Kept S w w' := ⟨h.os, h.tape, h.output, h.size, fun k hl hn => h.block k hl (fun e => hn (hs k e.symm))⟩
structure Rep0 (w : World) (S : Nat → Prop) (p gn gs nc sc n : Nat) (vw : Value) (k : Nat) (nowb safeb : List UInt8) (off ar : Bool) (ah : Int) : Prop where
 box : w.heap[p]? = some (.cells #[.slice (some ⟨gn, 0, none⟩) n nc, .slice (some ⟨gs, 0, none⟩) n sc, vw, .bool off, .bool ar, .int .i64 ah] 107 (0, 0))
 now : w.ownsRow 0 5 1 (.slice (some ⟨gn, 0, none⟩) n nc) n (Lib.byteCells nowb)
 safe : w.ownsRow 0 5 1 (.slice (some ⟨gs, 0, none⟩) n sc) n (Lib.byteCells safeb)
 rows : ∃ ys, w.ownsRow 0 110 2 vw k ys
 d1 : p ≠ gn
 d2 : p ≠ gs
 d3 : gn ≠ gs
 d4 : ∀ g, vw.ownBlock = some g → g ≠ p ∧ g ≠ gn ∧ g ≠ gs
 sp : S p
 sn : S gn
 ss : S gs
 sw : ∀ g, vw.ownBlock = some g → S g
 foot : ∀ k, S k → k < w.heap.size
theorem Rep.putRows (h : Rep w S p gn gs nc sc n vw cs nowb safeb L off ar ah) {k : Nat} {ys : List Value} (ho : w'.ownsRow 0 110 2 vw k ys) (hg : w.grownBy w' vw.ownBlock) : Rep0 w' S p gn gs nc sc n vw k nowb safeb off ar ah := by
 have hk : ∀ k, vw.ownBlock ≠ some k → k < w.heap.size → w'.heap[k]? = w.heap[k]? := fun k hk hl => hg.block k hl (fun e => hk e.symm)
 refine ⟨(hk p (fun e => (h.d4 p e).1 rfl) (h.foot p h.sp)).trans h.box, own_block h.now fun g hg => ?_, own_block h.safe fun g hg => ?_, ⟨ys, ho⟩, h.d1, h.d2, h.d3, h.d4, h.sp, h.sn, h.ss, h.sw, fun k hk' => Nat.lt_of_lt_of_le (h.foot k hk') hg.size⟩
 · injection hg with e; rw [← e]; exact hk gn (fun e => (h.d4 gn e).2.1 rfl) (h.foot gn h.sn)
 · injection hg with e; rw [← e]; exact hk gs (fun e => (h.d4 gs e).2.2 rfl) (h.foot gs h.ss)
theorem Rep0.cells {k : Nat} (h : Rep0 w S p gn gs nc sc n vw k nowb safeb off ar ah) : w.cell? ⟨p, 2, none⟩ = some vw ∧ ∀ j, w.frozen? ⟨p, j, none⟩ = false := by
 refine ⟨?_, fun j => frozen_of_row w p j _ _ h.box⟩
 rw [cell_of_row w p _ _ _ (0, 0) h.box]
 rfl
theorem Rep0.cut0 {k c : Nat} {A : Option Addr} (h : Rep0 w S p gn gs nc sc n (.slice A k c) k nowb safeb off ar ah) : Rep (w.setCell ⟨p, 2, none⟩ (.slice A 0 c)) S p gn gs nc sc n (.slice A 0 c) [] nowb safeb [] off ar ah := by
 have hk : ∀ k, k ≠ p → (w.setCell ⟨p, 2, none⟩ (.slice A 0 c)).heap[k]? = w.heap[k]? := fun k hk => by simp [World.setCell, Array.getElem?_modify, Ne.symm hk]
 have hb : (Value.slice A 0 c).ownBlock = (Value.slice A k c).ownBlock := by cases A <;> rfl
 have hr : w.ownsRow 0 110 2 (.slice A 0 c) 0 [] := by
   obtain ⟨ys, hr⟩ := h.rows
   refine ⟨by simp, ?_⟩
   rcases hr.2 with ⟨hv, _⟩ | ⟨g, cap, cur, hv, h1, hg, h2, h3, h4, _⟩
   · injection hv with e1 e2 e3
     rw [e1, e3]; exact Or.inl ⟨rfl, rfl⟩
   · injection hv with e1 e2 e3
     rw [e1, e3]
     exact Or.inr ⟨g, cap, cur, rfl, h1, hg, by omega, h3, h4, by simp⟩
 refine ⟨by simp [World.setCell, Array.getElem?_modify, h.box], own_block h.now fun g hg => ?_, own_block h.safe fun g hg => ?_, own_block hr fun g hg => hk g (h.d4 g (hb ▸ hg)).1, fun j hj => by simp at hj, h.d1, h.d2, h.d3, fun g hg => h.d4 g (hb ▸ hg), h.sp, h.sn, h.ss, fun g hg => h.sw g (hb ▸ hg), fun k hk' => by simpa [World.setCell] using h.foot k hk'⟩
 · injection hg with e; rw [← e]; exact hk gn h.d1.symm
 · injection hg with e; rw [← e]; exact hk gs h.d2.symm
set_option maxHeartbeats 4000000 in
theorem settle_any (h : Rep w S p gn gs nc sc n vw cs nowb safeb L off ar ah) (whole part : Nat) (hw : whole ≤ L.length) (hp : ∀ h : whole < L.length, part ≤ L[whole].2.length) (hok : ∀ x ∈ L, x.1 + x.2.length ≤ n) :
   Calls Tryz.prog 48 #[.pointer (some ⟨p, 0, none⟩), .int .i64 (whole : Int), .int .i64 (part : Int)] w fun x w' => x = .returned (.tuple #[]) ∧
     (∃ vw', Rep w' S p gn gs nc sc n vw' [] (backL nowb (nowL safeb (partL L whole part)) L) (nowL safeb (partL L whole part)) [] off ar ah ∧ vw'.ownBlock = vw.ownBlock) ∧ Kept (Mut p gn gs vw) w w' := by
 obtain ⟨A, c, rfl, hlc, hcm⟩ := own_form h.rows
 obtain ⟨m, hm⟩ : ∃ m, m = L.length := ⟨_, rfl⟩
 rw [← hm] at hlc hw
 have hr := h
 rw [← hm] at h
 obtain ⟨-, c1, c2, -, -, -, -⟩ := h.cells
 have HM := jI hm
 have HR := jI hr
 have HR0 := jI h
 have HOK := jI hok
 have HP := jI hp
 have HWS := jI (h.nlen)
 clear h hr hok hp hm
 go_enter Tryz.func48, Tryz.ntmps48
 go_upto_block 0 with fail
 go_cut [19] (fun _ W => Rep W S p gn gs nc sc n (.slice A m c) cs nowb (nowL safeb (L.take whole)) L off ar ah ∧ Kept (Mut p gn gs (.slice A m c)) w W)
 case first =>
   clear c1 c2
   go_wp2_with fail
   go_loopw [19] (fun ii wr => ∃ i : Nat, i ≤ whole ∧ ii = .int .i64 (i : Int) ∧ Rep wr S p gn gs nc sc n (.slice A m c) cs nowb (nowL safeb (L.take i)) L off ar ah ∧ Kept (Mut p gn gs (.slice A m c)) w wr) (fun ii _ => whole - (intOf ii).toNat)
   case atStart => exact ⟨0, by omega, rfl, HR0.out, Kept.refl _ _⟩
   case round =>
     obtain ⟨i, hi, rfl, hrep, hkept⟩ := hrel
     have RR := jI hrep
     have KK := jI hkept
     clear hrep hkept
     by_cases hlt : i < whole
     · obtain ⟨gw, c', Ab, cb, hv, hgw, e0, e1, hsl⟩ := RR.out.elem i (by have := HM.out; omega)
       injection hv with ea eb ec
       subst ea; subst ec
       clear eb
       obtain ⟨at_, hat⟩ : ∃ at_, at_ = (L[i]'(by have := HM.out; omega)).1 := ⟨_, rfl⟩
       obtain ⟨x, hx⟩ : ∃ x, x = (L[i]'(by have := HM.out; omega)).2 := ⟨_, rfl⟩
       have HNX := jI (nowL_next safeb L i (by have := HM.out; omega))
       have hox := HOK.out (L[i]'(by have := HM.out; omega)) (List.getElem_mem _)
       rw [← hat] at e0 hox HNX
       rw [← hx] at e1 hsl hox HNX
       obtain ⟨lx, hlx⟩ : ∃ lx, lx = x.length := ⟨_, rfl⟩
       rw [← hlx] at e1 hsl hox
       have HLX := jI hlx
       have HSL := jI hsl
       obtain ⟨hns, hcs⟩ := own_cap RR.out.safe
       clear hat hx hlx hsl
       go_wp2_with fail
       have R1 := jI (RR.out.more ((Below.refl _ _).alloc (Nat.le_refl _) (.cells #[.int .i64 (at_ : Int), .slice Ab lx cb] 110)))
       have K1 := jI (Kept.trans KK.out (Kept.of_below ((Below.refl wr.heap.size wr).alloc (Nat.le_refl _) (.cells #[.int .i64 (at_ : Int), .slice Ab lx cb] 110))))
       have HSL1 := jI (HSL.out.kept (w' := wr.alloc (.cells #[.int .i64 (at_ : Int), .slice Ab lx cb] 110)) fun k _ hk => Below.heap_alloc wr _ k hk)
       have hnew := heap_alloc_new wr (.cells #[.int .i64 (at_ : Int), .slice Ab lx cb] 110)
       obtain ⟨W1, hW1⟩ : ∃ W1, W1 = wr.alloc (.cells #[.int .i64 (at_ : Int), .slice Ab lx cb] 110) := ⟨_, rfl⟩
       rw [← hW1] at R1 K1 HSL1 hnew ⊢
       obtain ⟨b1, hb1⟩ : ∃ b1, b1 = wr.heap.size := ⟨_, rfl⟩
       rw [← hb1] at hnew ⊢
       have k2 : W1.cell? ⟨b1, 0, none⟩ = some (.int .i64 (at_ : Int)) := by rw [cell_of_row W1 b1 _ _ _ (0, 0) hnew]; rfl
       have k3 : W1.cell? ⟨b1, 1, none⟩ = some (.slice Ab lx cb) := by rw [cell_of_row W1 b1 _ _ _ (0, 0) hnew]; rfl
       obtain ⟨-, k1, -, -, -, -, -⟩ := R1.out.cells
       clear hW1 hb1 hnew e0 e1 hgw RR KK HSL
       have hal : at_ ≤ n := by omega
       have hox' : at_ + lx ≤ n := hox
       have fin : ∀ (w2 : World), w2.ownsRow 0 5 1 (.slice (some ⟨gs, 0, none⟩) n sc) n (splice (Lib.byteCells (nowL safeb (L.take i))) at_ (Lib.byteCells x)) → W1.drew.grownBy w2 (some gs) →
           Rep w2 S p gn gs nc sc n (.slice (some ⟨gw, 0, none⟩) m c) cs nowb (nowL safeb (L.take (i + 1))) L off ar ah ∧ Kept (Mut p gn gs (.slice (some ⟨gw, 0, none⟩) m c)) w w2 := by
         intro w2 ho hg
         rw [HNX.out]
         unfold Lib.byteCells at ho
         rw [splice_put] at ho
         exact ⟨(R1.out.more (Below.refl _ _).drew).putSafe ho hg, (K1.out.trans (Kept.of_below (Below.refl _ _).drew)).trans (kept_grown (Or.inr (Or.inr (Or.inl rfl))) hg)⟩
       have FIN := jI fin
       have HPOS := jI (sl_src (w' := W1.drew) HSL1.out HLX.out (fun _ _ => rfl))
       clear fin
       by_cases hcap : sc = at_
       · go_still_tail 9, (by kernel_rfl)
         change wpList _ _ _ _ _ W1.drew
         refine wpList_copy_rowE rfl (.tmp 29) (.tmp 31) 33 33 rfl 5 Tryz.underlying33 size_u8 0 gs n sc (Lib.byteCells (nowL safeb (L.take i))) R1.out.safe.drew _ _ _ _ _ _ rfl rfl at_ (Lib.byteCells x) ?_ ?_ ?_ ?_ ?_
         · rw [byteCells_len, ← HLX.out]; exact (Nat.min_eq_left (by omega)).symm
         · intro h0; exfalso; simp [Lib.byteCells] at h0; have := HLX.out; omega
         · rw [byteCells_len, ← HLX.out]; exact hox'
         · exact byteCells_one _
         · intro w2 ho hg
           have F2 := jI (FIN.out w2 ho hg)
           clear ho hg
           go_wp2_with fail
           go_roundw
           case rel => exact ⟨i + 1, by omega, by go_num, F2.out.1, F2.out.2⟩
           case measure => simp [intOf]; omega
       · go_still_tail 9, (by kernel_rfl)
         change wpList _ _ _ _ _ W1.drew
         refine wpList_copy_rowE rfl (.tmp 29) (.tmp 31) 33 33 rfl 5 Tryz.underlying33 size_u8 0 gs n sc (Lib.byteCells (nowL safeb (L.take i))) R1.out.safe.drew _ _ _ _ _ _ rfl rfl at_ (Lib.byteCells x) ?_ ?_ ?_ ?_ ?_
         · rw [byteCells_len, ← HLX.out]; exact (Nat.min_eq_left (by omega)).symm
         · intro h0; obtain ⟨ad, e, hc⟩ := HPOS.out h0; exact ⟨rfl, ad, e, hc⟩
         · rw [byteCells_len, ← HLX.out]; exact hox'
         · exact byteCells_one _
         · intro w2 ho hg
           have F2 := jI (FIN.out w2 ho hg)
           clear ho hg
           go_wp2_with fail
           go_roundw
           case rel => exact ⟨i + 1, by omega, by go_num, F2.out.1, F2.out.2⟩
           case measure => simp [intOf]; omega
     · have hiw : i = whole := by omega
       rw [hiw] at RR
       go_wp2_with fail
       go_meet
       exact ⟨RR.out, KK.out⟩
 case rest =>
   obtain ⟨hrep, hkept⟩ := hcut
   have RR := jI hrep
   have KK := jI hkept
   obtain ⟨-, k1, k2, -, -, -, -⟩ := hrep.cells
   clear hrep hkept c1 c2 HR0
   obtain ⟨tb, htb⟩ : ∃ tb, tb = decide ((whole : Int) < (m : Int)) := ⟨_, rfl⟩
   have HTB := jI htb
   have htb' := htb.symm
   clear htb
   go_upto_if 40 with fail
   clear htb' k1 k2
   go_cut [] (fun W => Rep W S p gn gs nc sc n (.slice A m c) cs nowb (nowL safeb (partL L whole part)) L off ar ah ∧ Kept (Mut p gn gs (.slice A m c)) w W)
   case first =>
     cases tb with
     | false =>
       have hwm : whole = m := by have := HTB.out; simp at this; omega
       go_wp2_with fail
       go_meet
       have e : partL L whole part = L.take whole := by rw [hwm, HM.out, partL_all]; simp
       exact ⟨by rw [e]; exact RR.out, KK.out⟩
     | true =>
       have hwm : whole < m := by have := HTB.out; simp at this; omega
       obtain ⟨gw, c', Ab, cb, hv, hgw, e0, e1, hsl⟩ := RR.out.elem whole (by have := HM.out; omega)
       injection hv with ea eb ec
       subst ea; subst ec
       clear eb
       obtain ⟨-, k1, k2, -, -, -, -⟩ := RR.out.cells
       obtain ⟨at_, hat⟩ : ∃ at_, at_ = (L[whole]'(by have := HM.out; omega)).1 := ⟨_, rfl⟩
       obtain ⟨x, hx⟩ : ∃ x, x = (L[whole]'(by have := HM.out; omega)).2 := ⟨_, rfl⟩
       have HNX := jI (partL_next safeb L whole part (by have := HM.out; omega))
       have hox := HOK.out (L[whole]'(by have := HM.out; omega)) (List.getElem_mem _)
       have hpl := HP.out (by have := HM.out; omega)
       rw [← hat] at e0 hox HNX
       rw [← hx] at e1 hsl hox HNX hpl
       obtain ⟨lx, hlx⟩ : ∃ lx, lx = x.length := ⟨_, rfl⟩
       rw [← hlx] at e1 hsl hox hpl
       have HLX := jI hlx
       have HSL := jI hsl
       have hlb : lx ≤ cb ∧ cb ≤ 9223372036854775807 := by
         obtain ⟨_, _, hv, h1, h2, _⟩ := HSL.out
         injection hv with _ _ e3
         subst e3
         exact ⟨by have := HLX.out; omega, h2⟩
       obtain ⟨hns, hcs⟩ := own_cap RR.out.safe
       clear hat hx hlx hsl
       go_upto_region 7 with fail
       have R1 := jI (RR.out.more ((Below.refl _ _).alloc (Nat.le_refl _) (.cells #[.int .i64 (at_ : Int), .slice Ab lx cb] 110)))
       have K1 := jI (Kept.trans KK.out (Kept.of_below ((Below.refl wc.heap.size wc).alloc (Nat.le_refl _) (.cells #[.int .i64 (at_ : Int), .slice Ab lx cb] 110))))
       have HSL1 := jI (HSL.out.kept (w' := wc.alloc (.cells #[.int .i64 (at_ : Int), .slice Ab lx cb] 110)) fun k _ hk => Below.heap_alloc wc _ k hk)
       have hnew := heap_alloc_new wc (.cells #[.int .i64 (at_ : Int), .slice Ab lx cb] 110)
       obtain ⟨W1, hW1⟩ : ∃ W1, W1 = wc.alloc (.cells #[.int .i64 (at_ : Int), .slice Ab lx cb] 110) := ⟨_, rfl⟩
       rw [← hW1] at R1 K1 HSL1 hnew ⊢
       obtain ⟨b1, hb1⟩ : ∃ b1, b1 = wc.heap.size := ⟨_, rfl⟩
       rw [← hb1] at hnew ⊢
       clear k1 k2
       have k2 : W1.cell? ⟨b1, 0, none⟩ = some (.int .i64 (at_ : Int)) := by rw [cell_of_row W1 b1 _ _ _ (0, 0) hnew]; rfl
       have k3 : W1.cell? ⟨b1, 1, none⟩ = some (.slice Ab lx cb) := by rw [cell_of_row W1 b1 _ _ _ (0, 0) hnew]; rfl
       obtain ⟨-, k1, -, -, -, -, -⟩ := R1.out.cells
       clear hW1 hb1 hnew e0 e1 hgw RR KK HSL
       have hal : at_ ≤ n := by omega
       have hpc : part ≤ cb := by omega
       have hox' : at_ + part ≤ n := by omega
       have HXP := jI (show (x.take part).length = part by rw [List.length_take]; have := HLX.out; omega)
       have HFR := jI (HSL1.out.front (k := part) (by have := HLX.out; omega))
       have fin : ∀ (w2 : World), w2.ownsRow 0 5 1 (.slice (some ⟨gs, 0, none⟩) n sc) n (splice (Lib.byteCells (nowL safeb (L.take whole))) at_ (Lib.byteCells (x.take part))) → W1.drew.grownBy w2 (some gs) →
           Rep w2 S p gn gs nc sc n (.slice (some ⟨gw, 0, none⟩) m c) cs nowb (nowL safeb (partL L whole part)) L off ar ah ∧ Kept (Mut p gn gs (.slice (some ⟨gw, 0, none⟩) m c)) w w2 := by
         intro w2 ho hg
         rw [HNX.out]
         unfold Lib.byteCells at ho
         rw [splice_put] at ho
         exact ⟨(R1.out.more (Below.refl _ _).drew).putSafe ho hg, (K1.out.trans (Kept.of_below (Below.refl _ _).drew)).trans (kept_grown (Or.inr (Or.inr (Or.inl rfl))) hg)⟩
       have FIN := jI fin
       have HPOS := jI (sl_src (w' := W1.drew) HFR.out HXP.out.symm (fun _ _ => rfl))
       clear fin
       by_cases hcap : sc = at_
       all_goals
         go_still_tail 11, (by kernel_rfl)
         change wpList _ _ _ _ _ W1.drew
         refine wpList_copy_rowE rfl (.tmp 54) (.tmp 58) 33 33 rfl 5 Tryz.underlying33 size_u8 0 gs n sc (Lib.byteCells (nowL safeb (L.take whole))) R1.out.safe.drew _ _ _ _ _ _ rfl rfl at_ (Lib.byteCells (x.take part)) ?_ ?_ ?_ ?_ ?_
         · rw [byteCells_len, HXP.out]; exact (Nat.min_eq_left (by omega)).symm
         · intro h0
           have h0' : 0 < part := by rw [byteCells_len, HXP.out] at h0; exact h0
           obtain ⟨ad, e, hc⟩ := HPOS.out h0
           first
             | (exfalso; omega)
             | exact ⟨rfl, ad, e, hc⟩
         · rw [byteCells_len, HXP.out]; exact hox'
         · exact byteCells_one _
         · intro w2 ho hg
           have F2 := jI (FIN.out w2 ho hg)
           clear ho hg
           go_wp2_with fail
           go_meet
           exact F2.out
   case rest =>
     obtain ⟨hrep, hkept⟩ := hcut
     have RR := jI hrep
     have KK := jI hkept
     obtain ⟨-, -, k2, -, -, -, -⟩ := hrep.cells
     have HLE := jI (show m = L.length from HM.out)
     clear hrep hkept HP HTB
     obtain ⟨sb, hsb⟩ : ∃ sb, sb = nowL safeb (partL L whole part) := ⟨_, rfl⟩
     rw [← hsb] at RR
     have HSE := jI hsb
     have HSB := jI (show sb.length = n from RR.out.nlen.2)
     clear hsb
     go_upto_block 2 with fail
     clear k2
     go_cut [65] (fun _ W => Rep W S p gn gs nc sc n (.slice A m c) cs (backL nowb sb L) sb L off ar ah ∧ Kept (Mut p gn gs (.slice A m c)) w W)
     case first =>
       go_wp2_with fail
       go_loopw [65] (fun ii wr => ∃ i : Nat, i ≤ m ∧ ii = .int .i64 (i : Int) ∧ Rep wr S p gn gs nc sc n (.slice A m c) cs (backL nowb sb (L.take i)) sb L off ar ah ∧ Kept (Mut p gn gs (.slice A m c)) w wr) (fun ii _ => m - (intOf ii).toNat)
       case atStart => exact ⟨0, by omega, rfl, RR.out, KK.out⟩
       case round =>
         obtain ⟨i, hi, rfl, hrep, hkept⟩ := hrel
         have RR := jI hrep
         have KK := jI hkept
         clear hrep hkept
         by_cases hlt : i < m
         · obtain ⟨gw, c', Ab, cb, hv, hgw, e0, e1, hsl⟩ := RR.out.elem i (by have := HM.out; omega)
           injection hv with ea eb ec
           subst ea; subst ec
           clear eb
           obtain ⟨at_, hat⟩ : ∃ at_, at_ = (L[i]'(by have := HM.out; omega)).1 := ⟨_, rfl⟩
           obtain ⟨lx, hlx⟩ : ∃ lx, lx = (L[i]'(by have := HM.out; omega)).2.length := ⟨_, rfl⟩
           have HNX := jI (backL_next nowb sb L i (by have := HM.out; omega))
           have hox := HOK.out (L[i]'(by have := HM.out; omega)) (List.getElem_mem _)
           rw [← hat] at e0 hox HNX
           rw [← hlx] at e1 hox HNX
           obtain ⟨hns, hcs⟩ := own_cap RR.out.safe
           obtain ⟨hnn, hcn⟩ := own_cap RR.out.now
           clear hat hlx hsl
           go_upto_region 11 with fail
           have R1 := jI (RR.out.more ((Below.refl _ _).alloc (Nat.le_refl _) (.cells #[.int .i64 (at_ : Int), .slice Ab lx cb] 110)))
           have K1 := jI (Kept.trans KK.out (Kept.of_below ((Below.refl wr.heap.size wr).alloc (Nat.le_refl _) (.cells #[.int .i64 (at_ : Int), .slice Ab lx cb] 110))))
           have hnew := heap_alloc_new wr (.cells #[.int .i64 (at_ : Int), .slice Ab lx cb] 110)
           obtain ⟨W1, hW1⟩ : ∃ W1, W1 = wr.alloc (.cells #[.int .i64 (at_ : Int), .slice Ab lx cb] 110) := ⟨_, rfl⟩
           rw [← hW1] at R1 K1 hnew ⊢
           obtain ⟨b1, hb1⟩ : ∃ b1, b1 = wr.heap.size := ⟨_, rfl⟩
           rw [← hb1] at hnew ⊢
           have k2 : W1.cell? ⟨b1, 0, none⟩ = some (.int .i64 (at_ : Int)) := by rw [cell_of_row W1 b1 _ _ _ (0, 0) hnew]; rfl
           have k3 : W1.cell? ⟨b1, 1, none⟩ = some (.slice Ab lx cb) := by rw [cell_of_row W1 b1 _ _ _ (0, 0) hnew]; rfl
           obtain ⟨k0, k1, -, -, -, -, -⟩ := R1.out.cells
           clear hW1 hb1 hnew e0 e1 hgw RR KK
           obtain ⟨en, hen⟩ : ∃ en, en = at_ + lx := ⟨_, rfl⟩
           have i0 : (0 : Int) ≤ (at_ : Int) := by omega
           have i1 : (at_ : Int) + (lx : Int) ≤ 9223372036854775807 := by omega
           have ie : (at_ : Int) + (lx : Int) = (en : Int) := by omega
           have IE := jI ie
           clear ie
           go_upto_region 12 with fail
           clear i0 i1
           rw [IE.out]
           have hen1 : at_ ≤ en := by omega
           have hen2 : en ≤ nc := by omega
           have hen3 : en ≤ sc := by omega
           have hal : at_ + lx ≤ n := by omega
           have HEN := jI (show en - at_ = lx by omega)
           have HCL := jI (show ((sb.drop at_).take lx).length = lx from cut_len (by have := HSB.out; omega))
           have fin : ∀ (w2 : World), w2.ownsRow 0 5 1 (.slice (some ⟨gn, 0, none⟩) n nc) n (splice (Lib.byteCells (backL nowb sb (L.take i))) at_ (Lib.byteCells ((sb.drop at_).take lx))) → W1.drew.grownBy w2 (some gn) →
               Rep w2 S p gn gs nc sc n (.slice (some ⟨gw, 0, none⟩) m c) cs (backL nowb sb (L.take (i + 1))) sb L off ar ah ∧ Kept (Mut p gn gs (.slice (some ⟨gw, 0, none⟩) m c)) w w2 := by
             intro w2 ho hg
             rw [HNX.out]
             unfold Lib.byteCells at ho
             rw [splice_put] at ho
             exact ⟨(R1.out.more (Below.refl _ _).drew).putNow ho hg, (K1.out.trans (Kept.of_below (Below.refl _ _).drew)).trans (kept_grown (Or.inr (Or.inl rfl)) hg)⟩
           have FIN := jI fin
           have HPOS := jI (own_src (at_ := at_) (k := lx) R1.out.safe.drew)
           clear fin hen
           by_cases hcn : nc = at_ <;> by_cases hcs : sc = at_
           all_goals
             try (have e1 : at_ = en := by omega
                  subst e1)
             go_still_tail 16, (by kernel_rfl)
             change wpList _ _ _ _ _ W1.drew
             refine wpList_copy_rowE rfl (.tmp 82) (.tmp 90) 33 33 rfl 5 Tryz.underlying33 size_u8 0 gn n nc (Lib.byteCells (backL nowb sb (L.take i))) R1.out.now.drew _ _ _ _ _ _ rfl rfl at_ (Lib.byteCells ((sb.drop at_).take lx)) ?_ ?_ ?_ ?_ ?_
             · rw [byteCells_len, HCL.out]
               first
                 | (rw [HEN.out]; exact (Nat.min_self lx).symm)
                 | (have h0 : lx = 0 := by have := HEN.out; omega
                    rw [h0]; simp)
             · intro h0
               have h0' : 0 < lx := by rw [byteCells_len, HCL.out] at h0; exact h0
               first
                 | (exfalso; have := HEN.out; omega)
                 | exact ⟨rfl, _, rfl, HPOS.out⟩
             · rw [byteCells_len, HCL.out]; exact hal
             · exact byteCells_one _
             · intro w2 ho hg
               have F2 := jI (FIN.out w2 ho hg)
               clear ho hg
               go_wp2_with fail
               go_roundw
               case rel => exact ⟨i + 1, by omega, by go_num, F2.out.1, F2.out.2⟩
               case measure => simp [intOf]; omega
         · have him : i = L.length := by have := HM.out; omega
           rw [him, List.take_length] at RR
           go_wp2_with fail
           go_meet
           exact ⟨RR.out, KK.out⟩
     case rest =>
       obtain ⟨hrep, hkept⟩ := hcut
       have RR := jI hrep
       have KK := jI hkept
       obtain ⟨-, -, k2, -, -, -, kf⟩ := hrep.cells
       have kf2 := kf 2
       obtain ⟨iw, hi, hz0, hz1, hz2⟩ := info_parts info_w
       obtain ⟨w2, ys, hrun, ho, hg⟩ := run_clear_rowE (P := Tryz.prog) wc 105 0 110 iw _ 2 Tryz.underlying105 hi hz0 rfl (by simp [go_sem]; exact ⟨rfl, rfl⟩) 0 _ _ cs RR.out.rows
       have R2 := jI (RR.out.putRows ho hg)
       have K2 := jI (KK.out.trans (kept_rows (fun g e => Or.inr (Or.inr (Or.inr e))) hg))
       have hp2 : w2.cell? ⟨p, 2, none⟩ = some (.slice A m c) ∧ w2.frozen? ⟨p, 2, none⟩ = false := ⟨R2.out.cells.1, R2.out.cells.2 2⟩
       obtain ⟨hp2, hf2⟩ := hp2
       clear hrep hkept kf ho hg hi hz0 hz1 hz2
       go_wp2_with fail
       refine bodyPost_end (v := .tuple #[]) (results_none (by kernel_rfl) _ _ _) rfl ⟨rfl, ⟨.slice A 0 c, ?_, ?_⟩, ?_⟩
       · rw [← HSE.out]
         have h2 := R2.out
         rw [← HM.out] at h2
         exact h2.cut0
       · cases A <;> rfl
       · have := K2.out.trans (kept_set (p := p) (j := 2) (Or.inl rfl) (.slice A 0 c))
         cases A <;> exact this
end
end
end Go.Proofs.YtncaefocijainaaGreatDoor.pk
