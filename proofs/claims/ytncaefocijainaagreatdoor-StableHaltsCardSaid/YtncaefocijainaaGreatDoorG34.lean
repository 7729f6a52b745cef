import Derived.Test.YtncaefocijainaaGreatDoorG32
import Derived.Maps.AppendAt
import Derived.Lib.ItoaWalk
import Derived.Lib.ItoaMem
import Derived.Lib.AppendIntMem
import Derived.Test.YtncaefocijainaaGreatDoorG28
namespace Go.Proofs.YtncaefocijainaaGreatDoor.pk
section
open Go Go.RowKit Go.Sort
set_option maxRecDepth 100000
structure Kq (w w' : World) (p : Option Nat) (v v' : Value) : Prop where
 blk : ∀ k, k < w.heap.size → p ≠ some k → v.ownBlock ≠ some k → w'.heap[k]? = w.heap[k]?
 at_ : v'.ownBlock = v.ownBlock ∨ ∃ k, v'.ownBlock = some k ∧ w.heap.size ≤ k
 size : w.heap.size ≤ w'.heap.size
theorem Kq.trans {a b c : World} {p : Option Nat} {u v x : Value} (h : Kq a b p u v) (k : Kq b c p v x) : Kq a c p u x := by
 refine ⟨fun i hi hp hu => ?_, ?_, Nat.le_trans h.size k.size⟩
 · refine (k.blk i (Nat.lt_of_lt_of_le hi h.size) hp fun e => ?_).trans (h.blk i hi hp hu)
   rcases h.at_ with h1 | ⟨q, h1, h2⟩
   · exact hu (h1.symm.trans e)
   · rw [h1] at e; injection e with e; omega
 · rcases k.at_ with h1 | ⟨q, h1, h2⟩
   · rw [h1]; exact h.at_
   · exact Or.inr ⟨q, h1, Nat.le_trans h.size h2⟩
theorem place_of {w : World} {v v' : Value} (h : v'.ownBlock = v.ownBlock ∨ v'.ownBlock = some w.heap.size) : v'.ownBlock = v.ownBlock ∨ ∃ k, v'.ownBlock = some k ∧ w.heap.size ≤ k := h.imp_right fun h => ⟨_, h, Nat.le_refl _⟩
theorem Kq.of_grown {w w' : World} {v v' : Value} (hg : w.grownBy w' v.ownBlock) (ha : v'.ownBlock = v.ownBlock ∨ ∃ k, v'.ownBlock = some k ∧ w.heap.size ≤ k) : Kq w w' none v v' :=
 ⟨fun k hk _ hv => hg.block k hk fun e => hv e.symm, ha, hg.size⟩
theorem Kq.ahead {a b c : World} {p : Option Nat} {u v : Value} (hb : Below a.heap.size a b) (h : Kq b c p u v) : Kq a c p u v := by
 refine ⟨fun k hk hp hv => (h.blk k (Nat.lt_of_lt_of_le hk hb.size) hp hv).trans (hb.block k hk), ?_, Nat.le_trans hb.size h.size⟩
 rcases h.at_ with h1 | ⟨q, h1, h2⟩
 · exact Or.inl h1
 · exact Or.inr ⟨q, h1, Nat.le_trans hb.size h2⟩
theorem Kq.store {w w' : World} {p : Nat} {v v' : Value} {i : Nat} (h : Kq w w' none v v') (u : Value) : Kq w (w'.setCell ⟨p, i, none⟩ u) (some p) v v' :=
 ⟨fun k hk hp hv => (Below.heap_setCell _ _ _ _ (fun e => hp (by rw [e]))).trans (h.blk k hk (by simp) hv), h.at_, by rw [World.size_setCell]; exact h.size⟩
theorem string_at {P : Program} {w w' : World} {base : Nat} {t u ty e : TypeId} {i : TypeInfo} (ht : P.underlying t = some (.slice e)) (hu : P.underlying u = some .string) (hi : P.info? e = some i) (hz : i.zero = some (.int .u8 0)) (hsize : i.size = 1) (hby : i.bytes = 1)
   {v v' : Value} {n : Nat} {xs : List Value} (hown : w.ownsRow base e 1 v n xs) {s : ByteArray} (h63 : n + s.size ≤ 140737488355328)
   (hr : (Builtin.append_ #[t, u] ty #[v, .string s]).run P w = .ok v' w') : v'.ownBlock = v.ownBlock ∨ v'.ownBlock = some w.heap.size := by
 rcases hown.2 with ⟨rfl, rfl⟩ | ⟨g, cap, cur, rfl, _, hg, hnc, hcm, hcs, _⟩
 · by_cases h0 : s.size = 0
   · have hf := Lib.run_firstCells_string (P := P) w 1 s
     rw [h0] at hf
     simp [Builtin.append_, run_underlying ht, run_underlying hu, sizeOf, typeInfo, hi, hsize, Builtin.lenOf, h0, hf] at hr
     exact Or.inl (by rw [← hr.1])
   · rw [run_append_nil_string (P := P) w t u ty e i (.int .u8 0) ht hu hi hz s (by omega) (by omega) (by rw [hby]; omega)] at hr
     injection hr with h1 h2
     exact Or.inr (by rw [← h1]; rfl)
 · by_cases hroom : n + s.size ≤ cap
   · rw [Lib.run_append_room_string (P := P) w t u ty e i ht hu hi hsize g n cap cur hg s hroom (by omega)] at hr
     injection hr with h1 h2
     exact Or.inl (by rw [← h1]; rfl)
   · rw [Lib.run_append_grow_string (P := P) w t u ty e i (.int .u8 0) ht hu hi hz ⟨g, 0, none⟩ n cap xs (by rw [hsize]; simpa using hown.1) (hown.cells (g := g) rfl) s (by omega) (by omega) (by rw [hby]; exact growslice_fits (by omega) (by omega))] at hr
     injection hr with h1 h2
     exact Or.inr (by rw [← h1]; rfl)
theorem wpList_text_at {w : World} {ops : Array Oper} {rest : List Oper} {o : Oper} {a : Act} {Q : Exit → Act → World → Prop} (hgd : o.guard = none) (sl x : Operand)
   (ho : o.op = .call { callee := .builtin .append, args := #[sl, x], argTypes := #[33, 9] }) (B n : Nat) (v : Value) (xs : List Value) (hs : a.eval sl = v) (hown : w.ownsRow B 5 1 v n xs) (l : List UInt8) (hx : a.eval x = .string ⟨l.toArray⟩)
   (hb : n + l.length ≤ 140737488355328) (hB : B ≤ w.heap.size)
   (h : ∀ v' w', w'.ownsRow B 5 1 v' (n + l.length) (xs ++ Lib.byteCells l) → w.grownBy w' v.ownBlock → (v'.ownBlock = v.ownBlock ∨ v'.ownBlock = some w.heap.size) → wpList Tryz.prog ops Q rest (a.put o.dst v') w') : wpList Tryz.prog ops Q (o :: rest) a w := by
 obtain ⟨i0, hi, hz0, hz1, hz2⟩ := info_parts info_u8
 have hsz : (⟨l.toArray⟩ : ByteArray).size = l.length := by simp [ByteArray.size]
 refine wpList_plain hgd fun K hK => ?_
 obtain ⟨v', w', hr, h2, h3, -⟩ := Lib.run_append_own_string (P := Tryz.prog) w B 33 9 o.type 5 i0 Tryz.underlying33 Tryz.underlying9 hi hz0 hz1 hz2 v n xs hown ⟨l.toArray⟩ (by rw [hsz]; simp only [maxLen]; omega) (by rw [hsz]; omega) hB
 have h4 := string_at Tryz.underlying33 Tryz.underlying9 hi hz0 hz1 hz2 hown (by rw [hsz]; omega) hr
 rw [hsz, strCells_mk] at h2
 unfold Oper.wp execOp
 simp only [ho, resolve, invoke, builtin, Sem.run_bind, Sem.run_pure, Result.andThen_ok, List.map_toArray, List.map_cons, List.map_nil, hs, hx, hr]
 exact hK _ _ (h v' w' h2 h3 h4)
set_option maxHeartbeats 2000000 in
theorem auSmall (B n u : Nat) (hu : u < 100) (v : Value) (xs : List Value) (w : World) (hown : w.ownsRow B 5 1 v n xs) (hB : B ≤ w.heap.size) (hl : n + 20 ≤ 140737488355328) :
   Calls Tryz.prog 121 #[v, .int .u64 (u : Int), .int .i64 10] w fun e w' => ∃ v', e = .returned v' ∧ w'.ownsRow B 5 1 v' (n + (Lib.decDigits u).length) (xs ++ Lib.byteCells (Lib.decDigits u)) ∧ w.grownBy w' v.ownBlock ∧ (v'.ownBlock = v.ownBlock ∨ ∃ k, v'.ownBlock = some k ∧ w.heap.size ≤ k) := by
 have C := jI fun W => Tryz.internal_strconv_small u hu W
 have HD := jI (digits_le u (by omega))
 have HO := jI (jA hown (jA hB hl))
 have i1 : (u : Int) < 100 := by omega
 have i0 : (0 : Int) ≤ (u : Int) := by omega
 have iw : IntKind.i64.wrap (u : Int) = (u : Int) := by rw [IntKind.wrap_i64]; omega
 clear hown hB hl
 go_enter Tryz.func121, Tryz.ntmps121
 go_wp2_with (first
   | (go_at_call 134; go_must (refine (C.out _).mono ?_; rintro y w1 ⟨rfl, rfl⟩))
   | (at_builtin; go_must (refine wpList_text_at rfl _ _ rfl B n v xs rfl HO.out.1 (Lib.decDigits u) rfl (by have := HD.out; have := HO.out.2.2; omega) HO.out.2.1 ?_; intro v' w1 ho hg ha; have H1 := jI (jA ho (jA hg (place_of ha))); clear ho hg ha)))
 go_ret
 exact ⟨v', rfl, H1.out.1, H1.out.2⟩
set_option maxHeartbeats 8000000 in
theorem auBig (B n u : Nat) (hu : 100 ≤ u) (hu64 : u < 18446744073709551616) (v : Value) (xs : List Value) (w : World) (hs : StdG w) (hown : w.ownsRow B 5 1 v n xs) (hB : B ≤ w.heap.size) (hl : n + 20 ≤ 140737488355328) :
   Calls Tryz.prog 121 #[v, .int .u64 (u : Int), .int .i64 10] w fun e w' => ∃ v', e = .returned v' ∧ w'.ownsRow B 5 1 v' (n + (Lib.decDigits u).length) (xs ++ Lib.byteCells (Lib.decDigits u)) ∧ w.grownBy w' v.ownBlock ∧ (v'.ownBlock = v.ownBlock ∨ ∃ k, v'.ownBlock = some k ∧ w.heap.size ≤ k) := by
 obtain ⟨i0, hi, hz0, hz1, hz2⟩ := info_parts info_u8
 have hdl := Lib.decDigits_length u
 have hd20 := digits_le u hu64
 rw [hdl] at hd20
 have hal : Tryz.prog.arrayLen 237 = 24 := by kernel_rfl
 have hsl : ∀ W, (Instr.sliceAt 237 (.pointer (some ⟨w.heap.size, 0, none⟩)) none (some (.int .i64 (Lib.nDigits u : Int))) none).run Tryz.prog W = .ok (.slice (some ⟨w.heap.size, 0, none⟩) (Lib.nDigits u) 24) W := fun W => by
   rw [run_sliceAt_array_h W 237 ⟨w.heap.size, 0, none⟩ (by kernel_rfl) .i64 (Lib.nDigits u : Int) (by omega) (by rw [hal]; omega)]
   go_simp
 have hz := Lib.holds_zero0 w 237 (Lib.nDigits u) (by omega)
 have CF := Tryz.internal_strconv_formatBase10 w.heap.size 0 24 u (Array.replicate (Lib.nDigits u) 0) (w.alloc (.cells Lib.zeros24 237)) hz (by rw [Array.size_replicate]; exact Lib.lt_pow_nDigits u) hu64 (by rw [Array.size_replicate]; omega)
 rw [Array.size_replicate] at CF
 have CN := jI (Tryz.internal_strconv_numDigits u (by omega) hu64 (w.alloc (.cells Lib.zeros24 237)) (Lib.tabIs_alloc hs.tab _))
 have iu : ¬ (u : Int) < 100 := by omega
 have HZ := jI hz
 clear hz hal
 go_enter Tryz.func121, Tryz.ntmps121
 go_wp2_with (go_at_call 135; go_must (refine CN.out.mono ?_; rintro y w1 ⟨rfl, rfl⟩))
 go_at_call 136
 refine CF.mono ?_
 rintro e w2 ⟨rfl, k, v2, dk, rfl, hF⟩
 obtain ⟨W2, hW2⟩ : ∃ W, W = (putRow (fun (b : UInt8) => Value.int .u8 (b.toNat : Int)) (w.alloc (.cells Lib.zeros24 237)) w.heap.size 0 dk).drewN k := ⟨_, rfl⟩
 have hcell : ∀ j x, (Lib.byteCells (Lib.decDigits u))[j]? = some x → W2.cell? ((⟨w.heap.size, 0, none⟩ : Addr).add j) = some x := by
   intro j x hj
   have hjl : j < (Lib.decDigits u).length := by
     have h5 := (List.getElem?_eq_some_iff.1 hj).1
     rwa [Lib.byteCells_length] at h5
   have hx : x = Value.int .u8 ((Lib.decDigits u)[j].toNat : Int) := by
     simp [Lib.byteCells, hjl] at hj
     exact hj.symm
   subst hx
   rw [hW2, Lib.row_is_numeral hF j hjl, Lib.add_plain, World.cell?_drewN]
   exact cell?_putRow (fun (b : UInt8) => Value.int .u8 (b.toNat : Int)) _ w.heap.size 0 _ dk HZ.out (by rw [hF.size, Array.size_replicate]) j (by rw [hF.size]; omega)
 obtain ⟨os, eo⟩ := Lib.fin_at w (.cells Lib.zeros24 237) dk k 0
 rw [← hW2] at eo ⊢
 have hown2 : W2.ownsRow B 5 1 v n xs := by rw [eo]; exact Lib.ownsRow_grow hown k os
 have hb2 : Below w.heap.size w W2 := by rw [eo]; exact Lib.below_grow w.heap.size w (Nat.le_refl _) k os
 have HO := jI (jA hown2 (jA hb2 (jA (jA hB hl) hcell)))
 have hbc : (Lib.byteCells (Lib.decDigits u)).length = Lib.nDigits u * 1 := by rw [Lib.byteCells_length, Lib.decDigits_length, Nat.mul_one]
 have HC := jI (jA hbc hd20)
 clear eo CF hF hW2 hcell hown2 hb2 hown hB hl hs hdl hd20 hbc
 go_wp2_with (at_builtin; go_must (refine wpList_append_own_at _ rfl _ _ 33 rfl B 5 i0 (.int .u8 0) 1 1 Tryz.underlying33 hi hz0 hz1 hz2 rfl (by decide) v n xs rfl HO.out.1 ⟨w.heap.size, 0, none⟩ (Lib.nDigits u) 24 (Lib.byteCells (Lib.decDigits u)) rfl HC.out.1 HO.out.2.2.2 (by intro x hx; simp only [Lib.byteCells, List.mem_map] at hx; obtain ⟨b, _, rfl⟩ := hx; rfl) (by have h1 := HO.out.2.2.1.2; have h2 := HC.out.2; simp only [maxLen]; omega) (by have h1 := HO.out.2.2.1.2; have h2 := HC.out.2; omega) (Nat.le_trans HO.out.2.2.1.1 HO.out.2.1.size) ?_; intro v' w3 ho hg _ ha; have H1 := jI (jA ho (jA hg (place_of ha))); clear ho hg ha))
 go_ret
 exact ⟨v', rfl, by rw [Lib.decDigits_length]; exact H1.out.1, grown_trans (grown_below HO.out.2.1 _) H1.out.2.1, H1.out.2.2.imp_right fun ⟨k, h1, h2⟩ => ⟨k, h1, Nat.le_trans HO.out.2.1.size h2⟩⟩
theorem au_any (B n u : Nat) (hu64 : u < 18446744073709551616) (v : Value) (xs : List Value) (w : World) (hs : StdG w) (hown : w.ownsRow B 5 1 v n xs) (hB : B ≤ w.heap.size) (hl : n + 20 ≤ 140737488355328) :
   Calls Tryz.prog 121 #[v, .int .u64 (u : Int), .int .i64 10] w fun e w' => ∃ v', e = .returned v' ∧ w'.ownsRow B 5 1 v' (n + (Lib.decDigits u).length) (xs ++ Lib.byteCells (Lib.decDigits u)) ∧ w.grownBy w' v.ownBlock ∧ (v'.ownBlock = v.ownBlock ∨ ∃ k, v'.ownBlock = some k ∧ w.heap.size ≤ k) := by
 by_cases hu : u < 100
 · exact auSmall B n u hu v xs w hown hB hl
 · exact auBig B n u (by omega) hu64 v xs w hs hown hB hl
set_option maxHeartbeats 2000000 in
theorem ai_any (B n u : Nat) (hu : u ≤ 9223372036854775807) (v : Value) (xs : List Value) (w : World) (hs : StdG w) (hown : w.ownsRow B 5 1 v n xs) (hB : B ≤ w.heap.size) (hl : n + 20 ≤ 140737488355328) :
   Calls Tryz.prog 122 #[v, .int .i64 (u : Int), .int .i64 10] w fun e w' => ∃ v', e = .returned v' ∧ w'.ownsRow B 5 1 v' (n + (Lib.decDigits u).length) (xs ++ Lib.byteCells (Lib.decDigits u)) ∧ w.grownBy w' v.ownBlock ∧ (v'.ownBlock = v.ownBlock ∨ ∃ k, v'.ownBlock = some k ∧ w.heap.size ≤ k) := by
 have C := jI (au_any B n u (by omega) v xs w hs hown hB hl)
 have i0 : ¬ (u : Int) < 0 := by omega
 have iw : IntKind.u64.wrap (u : Int) = (u : Int) := by rw [IntKind.wrap_u64]; omega
 have D : Hid (Calls Tryz.prog 138 #[v, .int .i64 (u : Int), .int .i64 10] w fun e w' => ∃ v', e = .returned v' ∧ w'.ownsRow B 5 1 v' (n + (Lib.decDigits u).length) (xs ++ Lib.byteCells (Lib.decDigits u)) ∧ w.grownBy w' v.ownBlock ∧ (v'.ownBlock = v.ownBlock ∨ ∃ k, v'.ownBlock = some k ∧ w.heap.size ≤ k)) := by
   apply jI
   clear hs hown hB hl hu
   go_enter Tryz.func138, Tryz.ntmps138
   go_wp2_with (go_at_call 121; go_must (refine C.out.mono ?_; rintro y w1 ⟨v', rfl, h1, h2⟩; have H1 := jI (jA h1 h2); clear h1 h2))
   go_ret
   exact ⟨v', rfl, H1.out.1, H1.out.2⟩
 clear hs hown hB hl hu iw i0 C
 go_enter Tryz.func122, Tryz.ntmps122
 go_wp2_with (go_at_call 138; go_must (refine D.out.mono ?_; rintro y w1 ⟨v', rfl, h1, h2⟩; have H1 := jI (jA h1 h2); clear h1 h2))
 go_ret
 exact ⟨v', rfl, H1.out.1, H1.out.2⟩
theorem wpList_wr1q {w : World} {B p : Nat} {v : Value} {bs : List UInt8} {ops : Array Oper} {rest : List Oper} {o : Oper} {a : Act} {Q : Exit → Act → World → Prop} (hgd : o.guard = none) (s x : Operand)
   (ho : o.op = .call { callee := .builtin .append, args := #[s, x], argTypes := #[33, 33] }) (h : WR w B p v bs) (c : UInt8) (hl : bs.length + 1 ≤ 140737488355328)
   (hs : a.eval s = v) (H : Nat) (hH : w.heap.size = H) (hx : a.eval x = .slice (some ⟨H, 0, none⟩) 1 1)
   (hK : ∀ g n cap w1, w1.cell? ⟨p, 0, none⟩ = some v → w1.frozen? ⟨p, 0, none⟩ = false →
     WR (w1.setCell ⟨p, 0, none⟩ (.slice (some ⟨g, 0, none⟩) n cap)) B p (.slice (some ⟨g, 0, none⟩) n cap) (bs ++ [c]) → KP B p w (w1.setCell ⟨p, 0, none⟩ (.slice (some ⟨g, 0, none⟩) n cap)) → Kq w (w1.setCell ⟨p, 0, none⟩ (.slice (some ⟨g, 0, none⟩) n cap)) (some p) v (.slice (some ⟨g, 0, none⟩) n cap) →
     wpList Tryz.prog ops Q rest (a.put o.dst (.slice (some ⟨g, 0, none⟩) n cap)) w1) :
   wpList Tryz.prog ops Q (o :: rest) a (w.alloc (.cells #[.int .u8 (c.toNat : Int)] 5)) := by
 obtain ⟨i0, hi, hz0, hz1, hz2⟩ := info_parts info_u8
 have hB := h.hB
 subst hH
 refine wpList_append_lies _ hgd s x 33 ho B 5 i0 _ 1 1 Tryz.underlying33 hi hz0 hz1 hz2 rfl (by omega) v bs.length (Lib.byteCells bs) hs (h.own.alloc _) ⟨w.heap.size, 0, none⟩ 1 1 [.int .u8 (c.toNat : Int)] hx rfl (cell_one_new _ _ _)
   (by intro u hu; simp at hu; subst hu; rfl) (by omega) (by simp only [maxLen]; omega) (by omega) (by simp; omega) _ rfl ?_
 intro g cap w1 hown hgrow hat _
 obtain ⟨hb, hk⟩ := h.grown1 hgrow
 have hp := h.blk_kept hk
 obtain ⟨h1, h2⟩ := h.put (m := [c]) hb hk hown
 have hq : Kq (w.alloc (.cells #[.int .u8 (c.toNat : Int)] 5)) w1 none v (.slice (some ⟨g, 0, none⟩) (bs.length + 1) cap) :=
   Kq.of_grown hgrow (hat.imp (fun e => e.symm) fun e => ⟨g, rfl, by rw [e]; exact Nat.le_refl _⟩)
 exact hK g _ cap w1 (by rw [cell_of_row w1 p 0 _ _ (0, 0) hp]; rfl) (by simp [World.frozen?, hp]) h1 h2 ((Kq.ahead (below_alloc w _) hq).store _)
set_option maxHeartbeats 2000000 in
theorem headQ (B p n : Nat) (letter : UInt8) (hn : n ≤ 9223372036854775807) (v : Value) (bs : List UInt8) (w : World) (hs : StdG w) (hB6 : 6 ≤ B) (h : WR w B p v bs) (hl : bs.length + 23 ≤ 140737488355328) :
   Calls Tryz.prog 106 #[.pointer (some ⟨p, 0, none⟩), .int .u8 (letter.toNat : Int), .int .i64 (n : Int)] w fun x w' => ∃ v', x = .returned (.tuple #[]) ∧ WR w' B p v' (bs ++ lHead letter n) ∧ KP B p w w' ∧ Kq w w' (some p) v v' := by
 have hc0 := h.cell
 have H := jI h
 have hlt := h.lt
 have HD := jI (digits_le n (by omega))
 clear h
 go_enter Tryz.func106, Tryz.ntmps106
 go_wp2_with (at_builtin; go_must (refine wpList_wr1q rfl _ _ rfl H.out letter (by omega) (by rfl) _ rfl (by rfl) ?_; intro g n1 cap w1 hc hf hw hk hq; have HW := jI hw; have HK1 := jI (jA hk hq); clear hw hk hq))
 generalize World.setCell w1 ⟨p, 0, none⟩ (Value.slice (some ⟨g, 0, none⟩) n1 cap) = W1 at HW HK1 ⊢
 go_at_call 122
 refine (ai_any B (bs ++ [letter]).length n hn _ _ W1 (hs.low hB6 HK1.out.1.below) HW.out.own HW.out.hB (by simp; omega)).mono ?_
 rintro e w2 ⟨v2, rfl, hown2, hg2, ha2⟩
 have hb2 : Below B W1 w2 := (Below.refl B W1).grown hg2 HW.out.hB fun k hk => (HW.out.own.lt k hk).1
 have hk2 : Lib.OthersKept 5 none W1 w2 := (Lib.OthersKept.refl _ _ W1).grown hg2 (Lib.ownsRow_kind HW.out.own)
 obtain ⟨g2, n2, c2, rfl, hc2, hf2, hw2, hk3⟩ := HW.out.next hb2 hk2 (digits_pos n) hown2
 have HW2 := jI hw2
 have HK2 := jI (jA hk3 ((Kq.of_grown hg2 ha2).store (p := p) (i := 0) (.slice (some ⟨g2, 0, none⟩) n2 c2)))
 clear hown2 hb2 hk2 hw2 hk3 hc hf hc0 hg2 ha2
 have hl1 := jI (show (bs ++ [letter]).length = bs.length + 1 by simp)
 go_wp2_with (at_builtin; go_must (refine wpList_wr1q rfl _ _ rfl HW2.out 58 (by rw [List.length_append, hl1.out]; have := HD.out; omega) (by rfl) w2.heap.size (by simp [World.setCell]) (by rfl) ?_; intro g3 n3 cap3 w3 hc3 hf3 hw4 hk4 hq4; have HW3 := jI hw4; have HK4 := jI (jA hk4 hq4); clear hw4 hk4 hq4))
 go_end0
 exact ⟨_, rfl, by simpa [lHead] using HW3.out, (HK1.out.1.trans HK2.out.1).trans HK4.out.1, (HK1.out.2.trans HK2.out.2).trans HK4.out.2⟩
theorem Writer_BytesQ (B p : Nat) (A : Option Addr) (n c : Nat) (t : List UInt8) (v : Value) (bs : List UInt8) (w : World) (hs : StdG w) (hB6 : 6 ≤ B) (h : WR w B p v bs) (ht : SlT w (fun q => q < w.heap.size ∧ q ≠ p ∧ v.ownBlock ≠ some q) (.slice A n c) t) (hl : bs.length + 23 + t.length ≤ 140737488355328) :
   Calls Tryz.prog 72 #[.pointer (some ⟨p, 0, none⟩), .slice A n c] w fun x w' => ∃ v', x = .returned (.pointer (some ⟨p, 0, none⟩)) ∧ WR w' B p v' (bs ++ lBytes t) ∧ KP B p w w' := by
 obtain ⟨hn, _, _⟩ := ht.sl.len
 have c1 := jI (headQ B p n 98 (by omega) v bs w hs hB6 h (by omega))
 have hz := lHead_len 98 n (by omega)
 have hts := jI hn
 have HZ := jI hz
 have HT := jI ht
 have hln : bs.length + 23 + n ≤ 140737488355328 := by omega
 clear h hz hn ht hl
 go_enter Tryz.func72, Tryz.ntmps72
 go_wp2_with fail
 refine c1.out.mono ?_
 rintro x w1 ⟨v1, rfl, h1, hk1, hq1⟩
 have hc1 := h1.cell
 have hl1 : 0 < (bs ++ lHead 98 n).length := by rw [List.length_append]; have := HZ.out; omega
 have hl2 : (bs ++ lHead 98 n).length + t.length ≤ 140737488355328 := by rw [List.length_append]; have := HZ.out; have := hts.out; omega
 have H1 := jI h1
 have HK1 := jI hk1
 have HL1 := jI hl1
 have HL2 := jI hl2
 have HS := jI ((HT.out.kept (w' := w1) fun k hk _ => hq1.blk k hk.1 (fun e => hk.2.1 (by injection e with e; exact e.symm)) hk.2.2).sl)
 clear h1 hk1 hl1 hl2 hq1
 go_wp2_with (at_builtin; go_must (refine wpList_wrB rfl _ _ rfl H1.out w1.heap.size A n c t HS.out HL1.out HL2.out (by rfl) (by rfl) ?_; intro g n1 cap w2 hc hf hw hk; have HW := jI hw; have HK2 := jI hk; clear hw hk))
 go_ret
 have hfin := HW.out
 rw [hts.out, List.append_assoc] at hfin
 exact ⟨_, rfl, hfin, HK1.out.trans HK2.out⟩
end
section
open Go Go.RowKit
set_option maxRecDepth 100000
def lays (zs : List Int) : List UInt8 := zs.flatMap fun z => lUint (u64 z)
theorem lays_next {zs : List Int} {j : Nat} (h : j < zs.length) : lays (zs.take (j + 1)) = lays (zs.take j) ++ lUint (u64 zs[j]) := by
 unfold lays
 rw [List.take_succ_eq_append_getElem h, List.flatMap_append]
 simp
theorem lays_len : ∀ zs : List Int, (lays zs).length ≤ 22 * zs.length
 | [] => by simp [lays]
 | z :: zs => by
   have h1 := lays_len zs
   have h2 := dec_len (u64 z) (u64_lt z)
   have h3 : lays (z :: zs) = lUint (u64 z) ++ lays zs := by unfold lays; rw [List.flatMap_cons]
   rw [h3, List.length_append, List.length_cons]
   omega
theorem WR.kept {w w' : World} {B p : Nat} {v : Value} {bs : List UInt8} (h : WR w B p v bs) (hb : Below w.heap.size w w') : WR w' B p v bs := ⟨h.low, (hb.block p h.lt).trans h.blk, own_kept h.own hb⟩
end
section
open Go Go.RowKit
set_option maxRecDepth 100000
theorem encC_lays (zs : List Int) : encC zs = lUint zs.length ++ lays zs := rfl
theorem u64_len {n : Nat} (h : n ≤ 1000000) : IntKind.u64.wrap (n : Int) = (n : Int) := by rw [IntKind.wrap_u64]; omega
set_option maxHeartbeats 4000000 in
theorem CEnc_any (zs : List Int) (A : Option Addr) (n c : Nat) (w : World) (hs : StdG w) (h : Ints w (.slice A n c) zs) (hn : n ≤ 1000) (m : Nat) (hm : m = (encC zs).length) :
   Calls Tryz.prog 73 #[.slice A n c] w fun x w' => ∃ A1 c1, x = .returned (.slice A1 m c1) ∧ SlT w' (fun q => w.heap.size ≤ q ∧ q < w'.heap.size) (.slice A1 m c1) (encC zs) ∧ Below w.heap.size w w' := by
 obtain ⟨hnl, -, -, hat⟩ := h.at_
 have in1 : (n : Int) ≤ 9223372036854775807 := by omega
 have kn := u64_len (n := n) (by omega)
 have hl0 := dec_len n (by omega)
 obtain ⟨b1, hb1⟩ : ∃ b, b = [] ++ lUint n := ⟨_, rfl⟩
 have hz1 : b1.length ≤ 30 := by rw [hb1, List.nil_append]; unfold lUint; have := decDigits_le n (by omega); simp; omega
 have C0 := jI (New_any w)
 have HG := jI (jA hs (jA hs.size (jA hm (jA hnl hn))))
 obtain ⟨B, hB⟩ : ∃ B, B = w.heap.size := ⟨_, rfl⟩
 have HB := jI hB
 have HC := jI hat
 have C1 := jI fun v W hsW hw => Writer_Uint B B n (by omega) v [] W hsW (by rw [hB]; exact hs.size) hw (by simp)
 rw [← hb1] at C1
 rw [← hB] at C0
 have HZ := jI (jA hb1 hz1)
 clear hs h hn hm hnl hat hl0 hb1 hz1 hB
 go_enter Tryz.func73, Tryz.ntmps73
 go_upto_region 2 with (first
   | (go_at_call 70; go_must (refine C0.out.mono ?_; rintro y w1 ⟨rfl, hw1, hb⟩; have H1 := jI (jA hw1 hb); clear hw1 hb))
   | (go_at_call 71; go_must (refine (C1.out _ _ (HG.out.1.below (by rw [← HB.out]; exact H1.out.2)) H1.out.1).mono ?_; rintro y w2 ⟨v2, rfl, hw2, hk2⟩; have H2 := jI (jA hw2 (H1.out.2.trans hk2.below)); clear hw2 hk2)))
 go_wp2_with fail
 go_loopw [13] (fun ii wr => ∃ (j : Nat) (v' : Value), j ≤ n ∧ ii = .int .i64 (j : Int) ∧ Hid (WR wr B B v' (b1 ++ lays (zs.take j)) ∧ Below B w wr)) (fun ii _ => n - (intOf ii).toNat)
 case atStart => exact ⟨0, v2, Nat.zero_le _, rfl, jI ⟨by rw [List.take_zero]; simpa [lays] using H2.out.1, H2.out.2⟩⟩
 case round =>
   obtain ⟨j, v', hj, rfl, HR⟩ := hrel
   by_cases hlt : j < n
   · have ii : (j : Int) < (n : Int) := by omega
     have hjl : j < zs.length := by have := HG.out.2.2.2.1; omega
     obtain ⟨bk, off, rfl, hbk, hcc⟩ := HC.out (by omega)
     have hc := (HR.out.2.cell (p := ⟨bk, off + j, none⟩) (by rw [HB.out]; exact hbk)).trans (hcc j hlt)
     have hnx := lays_next hjl
     have hll := lays_len (zs.take j)
     rw [List.length_take] at hll
     obtain ⟨z, hz⟩ : ∃ z, z = zs[j] := ⟨_, rfl⟩
     rw [show zs.getD j 0 = z from by rw [hz]; simp [List.getD, List.getElem?_eq_getElem hjl]] at hc
     rw [← hz] at hnx
     have kz := wrap_u64 z
     obtain ⟨u, hu⟩ : ∃ u, u = u64 z := ⟨_, rfl⟩
     have hul : u < 18446744073709551616 := by rw [hu]; exact u64_lt z
     rw [← hu] at kz hnx
     have CU := jI (Writer_Uint B B u hul v' (b1 ++ lays (zs.take j)) wr (HG.out.1.below (by rw [← HB.out]; exact HR.out.2)) (by rw [HB.out]; exact HG.out.2.1) HR.out.1 (by rw [List.length_append]; have := HG.out.2.2.2.2; have := HZ.out.2; omega))
     have HX := jI hnx
     clear hnx hll hz hu hul hjl hcc hbk
     go_wp2_with (go_at_call 71; go_must (refine CU.out.mono ?_; rintro y w1 ⟨v1, rfl, hw, hk⟩; have H3 := jI (jA hw hk); clear hw hk))
     go_roundw
     case rel => exact ⟨j + 1, v1, by omega, by go_num, jI ⟨by rw [HX.out, ← List.append_assoc]; exact H3.out.1, HR.out.2.trans H3.out.2.below⟩⟩
     case measure => simp [intOf]; omega
   · obtain rfl : j = n := by omega
     have ii : ¬ (j : Int) < (j : Int) := by omega
     have hfin := HR.out.1
     rw [List.take_of_length_le (by have := HG.out.2.2.2.1; omega), HZ.out.1, List.nil_append, HG.out.2.2.2.1, ← encC_lays] at hfin
     have hll := lays_len zs
     have hz4 : (encC zs).length ≤ 140737488355328 := by rw [encC_lays, List.length_append]; have := HZ.out.2; have h1 := HZ.out.1; rw [List.nil_append, HG.out.2.2.2.1] at h1; rw [h1] at this; have := HG.out.2.2.2.2; have := HG.out.2.2.2.1; omega
     have C5 := jI (Writer_Done B B v' (encC zs) wr hfin hz4)
     have HF := jI hfin
     clear hfin hll hz4
     go_wp2_with (go_at_call 75; go_must (refine C5.out.mono ?_; rintro y w6 ⟨u, rfl, ho6, hb6⟩; have H6 := jI (jA ho6 hb6); clear ho6 hb6))
     go_ret
     have hI : SlT w6 (fun q => w.heap.size ≤ q ∧ q < w6.heap.size) u (encC zs) := SlT.of_own H6.out.1 _ fun g hg => ⟨by have := (H6.out.1.lt g hg).1; have := HF.out.hB; have := HB.out; omega, (H6.out.1.lt g hg).2⟩
     obtain ⟨A6, c6, rfl, -, -⟩ := id hI
     refine ⟨A6, c6, by rw [← HG.out.2.2.1]; rfl, ?_, ?_⟩
     · rw [HG.out.2.2.1]; exact hI
     · rw [← HB.out]; exact HR.out.2.trans (H6.out.2.mono (by have := HF.out.hB; omega))
end
end Go.Proofs.YtncaefocijainaaGreatDoor.pk
