import Derived.Test.YtncaefocijainaaGreatDoorG14
import Derived.Test.YtncaefocijainaaGreatDoorG01
import Derived.Deep.QuietTactic
import Derived.BigQuiet
import Derived.Laws.BitsAllLaws
import Derived.IntWalk
import Derived.Test.YtncaefocijainaaGreatDoorG08
import Derived.OwnWalk
namespace Go.Proofs.YtncaefocijainaaGreatDoor.pk
open Go Go.RowKit
set_option maxRecDepth 100000
section
def roomZ (k : Int) : Int := if k < 5 then -1 else k - 5
theorem room_any (k : Int) (w : World) (h1 : -9223372036854775808 ≤ k) (h2 : k ≤ 9223372036854775807) :
   Calls Tryz.prog 53 #[.int .i64 k] w fun x w' => x = .returned (.int .i64 (roomZ k)) ∧ w = w' := by
 by_cases h : k < 5
 · rw [show roomZ k = -1 from if_pos h]
   go_enter Tryz.func53, Tryz.ntmps53
   go_wp2
   go_ret
   exact ⟨rfl, rfl⟩
 · rw [show roomZ k = k - 5 from if_neg h]
   go_enter Tryz.func53, Tryz.ntmps53
   go_wp2
   go_ret
   exact ⟨rfl, rfl⟩
theorem below_drewN (w : World) (n : Nat) : Below w.heap.size w (w.drewN n) := ⟨rfl, rfl, rfl, Nat.le_refl _, fun _ _ => rfl⟩
def TBox (w : World) (q p : Nat) (t : Tm) : Prop :=
 w.heap[q]? = some (.cells #[.pointer (some ⟨p, 0, none⟩), .int .i64 (t.at_ : Int), .int .i64 (t.len : Int), .int .i64 (t.fin : Int), .int .i64 (t.n : Int), er t.dead] 117 (0, 0))
structure Tp (C : ConD) (w : World) (S : Nat → Prop) (q p : Nat) (d : Dk) (t : Tm) : Prop where
 dk : C.DK w S p d
 box : TBox w q p t
 out : ¬ S q
 dis : t.at_ + t.len ≤ d.B.length
 five : 5 ≤ t.len
 fin : t.fin ≤ t.len
 num : t.n ≤ t.fin
section
variable {C : ConD} {w w' : World} {S : Nat → Prop} {q p : Nat} {d : Dk} {t : Tm}
theorem TBox.cells (h : TBox w q p t) :
   w.cell? ⟨q, 0, none⟩ = some (.pointer (some ⟨p, 0, none⟩)) ∧ w.cell? ⟨q, 1, none⟩ = some (.int .i64 (t.at_ : Int)) ∧ w.cell? ⟨q, 2, none⟩ = some (.int .i64 (t.len : Int)) ∧ w.cell? ⟨q, 3, none⟩ = some (.int .i64 (t.fin : Int)) ∧
     w.cell? ⟨q, 4, none⟩ = some (.int .i64 (t.n : Int)) ∧ w.cell? ⟨q, 5, none⟩ = some (er t.dead) ∧ ∀ j, w.frozen? ⟨q, j, none⟩ = false := by
 refine ⟨?_, ?_, ?_, ?_, ?_, ?_, fun j => frozen_of_row w q j _ _ h⟩
 all_goals
   rw [cell_of_row w q _ _ _ (0, 0) h]
   rfl
theorem Tp.sizes (h : Tp C w S q p d t) : t.at_ + t.len ≤ 4194304 := by
 have := (C.ok h.dk).2.2
 have := h.dis
 omega
theorem TBox.lt (h : TBox w q p t) : q < w.heap.size := (Array.getElem?_eq_some_iff.1 h).1
theorem Room_any (h : TBox w q p t) (h1 : t.len ≤ 4194304) (h2 : t.fin ≤ 4194304) :
   Calls Tryz.prog 30 #[.pointer (some ⟨q, 0, none⟩)] w fun x w' => x = .returned (.int .i64 (roomZ ((t.len : Int) - t.fin))) ∧ Below w.heap.size w w' := by
 obtain ⟨-, -, c2, c3, -, -, -⟩ := h.cells
 obtain ⟨l, hl⟩ : ∃ l : Int, l = (t.len : Int) := ⟨_, rfl⟩
 obtain ⟨f, hf⟩ : ∃ f : Int, f = (t.fin : Int) := ⟨_, rfl⟩
 rw [← hl] at c2
 rw [← hf] at c3
 have g1 : 0 ≤ l := by omega
 have g2 : l ≤ 4194304 := by omega
 have g3 : 0 ≤ f := by omega
 have g4 : f ≤ 4194304 := by omega
 rw [← hl, ← hf]
 have iw : IntKind.i64.wrap (l - f) = l - f := IntWalk.i64_in _ (by omega)
 have cr := fun k => Calls.quiet_of_same ((room_any (l - f) (w.drewN k) (by omega) (by omega)).mono fun _ _ ⟨a, b⟩ => ⟨a, b.symm⟩)
 clear h h1 h2 hl hf
 go_enter Tryz.func30, Tryz.ntmps30
 go_wp2
 go_quiet ((go_at_call 53; exact cr _))
 go_wp2
 go_ret
 exact ⟨rfl, below_drewN _ _⟩
end
end
section
theorem numL_lt : ∀ (k : Nat) (l : List UInt8), k ≤ 4 → (numL (l.take k)) ≤ 4294967295
 | 0, _, _ => by simp [numL]
 | k + 1, l, hk => by
   have hb : ∀ l : List UInt8, ∀ n, l.foldl (fun n c => n * 256 + c.toNat) n + 1 ≤ (n + 1) * 256 ^ l.length := by
     intro l
     induction l with
     | nil => intro n; simp
     | cons c l ih =>
       intro n
       have h1 := ih (n * 256 + c.toNat)
       have h2 := c.toNat_lt
       rw [List.foldl_cons, List.length_cons, Nat.pow_succ]
       refine Nat.le_trans h1 ?_
       have h3 : n * 256 + c.toNat + 1 ≤ (n + 1) * 256 := by omega
       calc (n * 256 + c.toNat + 1) * 256 ^ l.length ≤ ((n + 1) * 256) * 256 ^ l.length := Nat.mul_le_mul_right _ h3
         _ = (n + 1) * (256 ^ l.length * 256) := by rw [Nat.mul_assoc, Nat.mul_comm 256]
   have h1 := hb (l.take (k + 1)) 0
   have h2 : (256 : Nat) ^ (l.take (k + 1)).length ≤ 256 ^ 4 := Nat.pow_le_pow_right (by omega) (by rw [List.length_take]; omega)
   unfold numL
   simp only [Nat.zero_add, Nat.one_mul] at h1
   omega
theorem ofInt_i64 (a : Nat) (ha : a < 18446744073709551616) : (BitVec.ofInt 64 (a : Int)).toNat = a := by
 rw [BitVec.ofInt_natCast, BitVec.toNat_ofNat]; exact Nat.mod_eq_of_lt (by omega)
theorem or_shift (v c : Nat) (hv : v ≤ 4294967295) (hc : c < 256) : bits .or .i64 ((v : Int) * 256) (c : Int) = ((v * 256 + c : Nat) : Int) := by
 have h0 : ((v : Int) * 256) = ((v * 256 : Nat) : Int) := by omega
 rw [h0]
 have h2 : v * 256 ||| c = v * 256 + c := by
   have := Nat.shiftLeft_add_eq_or_of_lt (show c < 2 ^ 8 from hc) v
   rw [Nat.shiftLeft_eq] at this
   exact this.symm
 show IntKind.i64.wrap ((BitVec.ofInt 64 ((v * 256 : Nat) : Int) ||| BitVec.ofInt 64 (c : Int)).toNat : Int) = _
 rw [BitVec.toNat_or, ofInt_i64 _ (by omega), ofInt_i64 _ (by omega), h2]
 exact IntWalk.i64_in _ (by omega)
theorem length_cells (b off c : Nat) (x : List UInt8) (w : World) (hx : x.length = 4) (hc : ∀ t, t < 4 → w.cell? ⟨b, off + t, none⟩ = some (.int .u8 ((x.getD t 0).toNat : Int))) :
   Calls Tryz.prog 91 #[.slice (some ⟨b, off, none⟩) 4 c] w fun y w' => y = .returned (.int .i64 (numL x : Int)) ∧ w = w' := by
 have HX := jI hx
 have HC := jI hc
 clear hx hc
 go_enter Tryz.func91, Tryz.ntmps91
 go_wp2
 go_loop [3, 8] (fun n i => ∃ k v : Nat, k ≤ 4 ∧ i = .int .i64 (k : Int) ∧ n = .int .i64 (v : Int) ∧ v = numL (x.take k)) (fun _ i => 4 - (intOf i).toNat)
 case atStart => exact ⟨0, 0, by omega, rfl, rfl, rfl⟩
 case round =>
   obtain ⟨k, v, hk, rfl, rfl, hv⟩ := hrel
   have HV := jI hv
   have hvb : (v : Int) ≤ 4294967295 := by rw [hv]; have := numL_lt k x hk; omega
   clear hv
   by_cases hlt : k < 4
   · have g := HC.out k hlt
     obtain ⟨u, hu⟩ : ∃ u, u = (x.getD k 0).toNat := ⟨_, rfl⟩
     have hub : (u : Int) < 256 := by rw [hu]; have := (x.getD k 0).toNat_lt; omega
     rw [← hu] at g
     have HU := jI hu
     have ho := or_shift v u (by omega) (by omega)
     clear hu
     go_wp2
     go_round
     case rel => exact ⟨k + 1, v * 256 + u, by omega, by go_num, by go_num, by
       have e : x.take (k + 1) = x.take k ++ [x.getD k 0] := by
         have hlx : k < x.length := by have := HX.out; omega
         rw [List.take_succ_eq_append_getElem hlx]
         simp [List.getD, List.getElem?_eq_getElem hlx]
       rw [e, numL_snoc, ← HV.out, ← HU.out]⟩
     case measure => simp [intOf]; omega
   · have hge : ¬ (k : Int) < 4 := by omega
     have e : v = numL x := by rw [HV.out, List.take_of_length_le (by have := HX.out; omega)]
     have HE := jI e
     clear e
     go_wp2
     go_ret
     exact ⟨by rw [HE.out]; rfl, rfl⟩
end
section
theorem bytes_of (n : Nat) (hn : n ≤ 1048576) : (n : Int) / 16777216 = ((UInt8.ofNat (n / 16777216)).toNat : Int) ∧ (n : Int) / 65536 = ((UInt8.ofNat (n / 65536)).toNat : Int) ∧ (n : Int) / 256 % 256 = ((UInt8.ofNat (n / 256)).toNat : Int) ∧ (n : Int) % 256 = ((UInt8.ofNat n).toNat : Int) := by
 simp only [UInt8.toNat_ofNat']
 omega
theorem lit4 (w : World) (n : Nat) (hn : n ≤ 1048576) : Sl (w.alloc (.cells #[.int .u8 ((n : Int) / 16777216), .int .u8 ((n : Int) / 65536), .int .u8 ((n : Int) / 256 % 256), .int .u8 ((n : Int) % 256)] 5)) (w.heap.size + 1) (.slice (some ⟨w.heap.size, 0, none⟩) 4 4) (be4 n) := by
 obtain ⟨e1, e2, e3, e4⟩ := bytes_of n hn
 rw [e1, e2, e3, e4]
 exact Sl.lit w 5 (be4 n) _ (by omega) (by simp [be4])
theorem lit1 (w : World) (k : Nat) (hk : k < 256) : Sl (w.alloc (.cells #[.int .u8 (k : Int)] 5)) (w.heap.size + 1) (.slice (some ⟨w.heap.size, 0, none⟩) 1 1) [UInt8.ofNat k] := by
 have e : (k : Int) = ((UInt8.ofNat k).toNat : Int) := by rw [UInt8.toNat_ofNat']; omega
 rw [e]
 exact Sl.lit w 5 [UInt8.ofNat k] _ (by omega) (by simp)
theorem byteCells_app (a b : List UInt8) : Lib.byteCells a ++ Lib.byteCells b = Lib.byteCells (a ++ b) := by simp [Lib.byteCells]
set_option maxHeartbeats 1000000 in
theorem body_any (T : Nat → Prop) (A : Option Addr) (c n : Nat) (b : List UInt8) (z : Bool) (w : World) (h : SlT w T (.slice A n c) b) (hn : b.length ≤ 1048576) :
   Calls Tryz.prog 52 #[.slice A n c, .bool z] w fun y w' => ∃ v, y = .returned v ∧ SlT w' (fun k => w.heap.size ≤ k ∧ k < w'.heap.size) v (be4 b.length ++ (b ++ if z = true then [0] else [])) ∧ Below w.heap.size w w' := by
 obtain ⟨i0, hi, hz0, hz1, hz2⟩ := info_parts info_u8
 obtain ⟨hbn, -, -⟩ := h.sl.len
 have hnn : (n : Int) ≤ 1048576 := by omega
 have hnN : n ≤ 1048576 := by omega
 have H := jI h
 have HN := jI hbn
 have hbe : (be4 n).length = 4 := rfl
 have HBE := jI hbe
 clear h hbn hbe
 have hfin : ∀ (v : Value) (W : World) (ys : List UInt8) (k : Nat), W.ownsRow w.heap.size 5 1 v k (Lib.byteCells ys) → k = ys.length → SlT W (fun k => w.heap.size ≤ k ∧ k < W.heap.size) v ys := fun v W ys k ho e => by
   subst e
   exact SlT.of_own ho _ (fun g hg => ho.lt g hg)
 have FIN := jI hfin
 clear hfin
 go_enter Tryz.func52, Tryz.ntmps52
 go_upto_region 3 with (first
   | (at_make; go_must (refine wpList_make_own _ rfl _ _ 33 rfl w.heap.size 5 i0 _ 1 Tryz.underlying33 hi hz0 hz1 .i64 .i64 _ (n + 5) rfl rfl (by omega) (by rw [hz2]; omega) (by unfold maxLen; omega) (Nat.le_refl _) ?_; intro w1 ho1 hg1; have O1 := jI ho1; have B1 := jI ((Below.refl w.heap.size w).grown hg1 (Nat.le_refl _) (fun k hk => by cases hk)); clear ho1 hg1))
   | (at_builtin; go_must (refine wpList_append_sl rfl (.tmp 11) (.tmp 23) 33 rfl w.heap.size 5 i0 _ Tryz.underlying33 hi hz0 hz1 hz2 rfl _ 0 [] rfl (O1.out.alloc _) (w1.heap.size + 1) _ 4 4 (be4 n) rfl (lit4 w1 n hnN) (by have := HBE.out; omega) (by rw [World.size_alloc]; have := B1.out.size; omega) ?_; intro v2 w2 ho2 hg2; rw [Nat.zero_add, List.nil_append, HBE.out] at ho2; have O2 := jI ho2; have B2 := jI ((B1.out.alloc B1.out.size _).grown hg2 (by rw [World.size_alloc]; have := B1.out.size; omega) (fun k hk => (O1.out.lt k hk).1)); clear ho2 hg2)))
 go_upto_region 4 with (at_builtin; go_must (refine wpList_append_sl rfl (.tmp 25) (.tmp 26) 33 rfl w.heap.size 5 i0 _ Tryz.underlying33 hi hz0 hz1 hz2 rfl _ 4 (Lib.byteCells (be4 n)) rfl O2.out w.heap.size A n c b rfl (H.out.sl.below B2.out) (by have := HN.out; omega) B2.out.size ?_; intro v3 w3 ho3 hg3; have O3 := jI ho3; have B3 := jI (B2.out.grown hg3 B2.out.size (fun k hk => (O2.out.lt k hk).1)); clear ho3 hg3))
 have o3 := O3.out
 rw [byteCells_app] at o3
 have O4 := jI o3
 clear o3 O3
 cases z with
 | false =>
   go_wp2_with fail
   go_ret
   refine ⟨_, rfl, ?_, B3.out⟩
   have := FIN.out _ _ _ _ O4.out (by rw [List.length_append, HBE.out])
   rw [← HN.out]
   simpa using this
 | true =>
   go_wp2_with (at_builtin; refine wpList_append_sl rfl (.tmp 29) (.tmp 30) 33 rfl w.heap.size 5 i0 _ Tryz.underlying33 hi hz0 hz1 hz2 rfl _ (4 + b.length) _ rfl (O4.out.alloc _) (w3.heap.size + 1) _ 1 1 [0] rfl (lit1 w3 0 (by omega)) (by have := HN.out; show 4 + b.length + 1 ≤ _; omega) (by rw [World.size_alloc]; have := B3.out.size; omega) ?_; intro v5 w5 ho5 hg5; have O5 := jI ho5; have B5 := jI ((B3.out.alloc B3.out.size _).grown hg5 (by rw [World.size_alloc]; have := B3.out.size; omega) (fun k hk => (O4.out.lt k hk).1)); clear ho5 hg5)
   go_ret
   refine ⟨_, rfl, ?_, B5.out⟩
   have o5 := O5.out
   rw [byteCells_app] at o5
   have := FIN.out _ _ _ _ o5 (by simp [HBE.out]; omega)
   rw [← HN.out]
   simpa using this
end
end Go.Proofs.YtncaefocijainaaGreatDoor.pk
