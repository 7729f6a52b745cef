import Derived.Test.YtncaefocijainaaGreatDoorG19
import Derived.Test.YtncaefocijainaaGreatDoorG10
import Derived.Test.YtncaefocijainaaGreatDoorG15
import Derived.Outline
import Derived.Test.YtncaefocijainaaGreatDoorG14
namespace Go.Proofs.YtncaefocijainaaGreatDoor.pk
open Go Go.RowKit
set_option maxRecDepth 100000
section
theorem roomZ_no {k : Int} (h : k < 5) : roomZ k = -1 := if_pos h
theorem roomZ_yes {k : Int} (h : 5 ≤ k) : roomZ k = k - 5 := if_neg (by omega)
theorem src_of {W : World} {b off m : Nat} {A : List UInt8} (hc : ∀ t, t < m → W.cell? ⟨b, off + t, none⟩ = some (.int .u8 ((A.getD t 0).toNat : Int))) (hm : m = A.length) (at_ k : Nat) (hk : at_ + k ≤ m) (j : Nat) (v : Value)
   (hj : (Lib.byteCells ((A.drop at_).take k))[j]? = some v) : W.cell? ((⟨b, off + at_, none⟩ : Addr).add j) = some v := by
 rw [byteCells_get, List.getElem?_take] at hj
 split at hj
 · rw [List.getElem?_drop] at hj
   obtain ⟨y, hy, rfl⟩ := Option.map_eq_some_iff.1 hj
   rw [Lib.add_plain, Nat.add_assoc, hc (at_ + j) (by omega)]
   simp [List.getD, hy]
 · cases hj
def ParseP (A : List UInt8) (w : World) (y : Ending) (w' : World) : Prop := Below w.heap.size w w' ∧ match readT A with
     | none => y = .returned (.tuple #[.slice none 0 0, .int .i64 0, er 14])
     | some (l, k) => ∃ v, y = .returned (.tuple #[v, .int .i64 (k : Int), .nilIface]) ∧ OwnL w' w.heap.size (fun k => w.heap.size ≤ k) v l
theorem ParseP.yes {A : List UInt8} {w w' : World} {l : List (List UInt8)} {k : Nat} {v : Value} (h : readT A = some (l, k)) (ho : OwnL w' w.heap.size (fun k => w.heap.size ≤ k) v l) (hb : Below w.heap.size w w') : ParseP A w (.returned (.tuple #[v, .int .i64 (k : Int), .nilIface])) w' :=
 ⟨hb, by rw [h]; exact ⟨v, rfl, ho⟩⟩
theorem ParseP.no {A : List UInt8} {w w' : World} (h : readT A = none) (hb : Below w.heap.size w w') : ParseP A w (.returned (.tuple #[.slice none 0 0, .int .i64 0, er 14])) w' :=
 ⟨hb, by rw [h]⟩
set_option maxHeartbeats 4000000 in
theorem parse_any (T : Nat → Prop) (A0 : Option Addr) (m c : Nat) (A : List UInt8) (w : World) (h : SlT w T (.slice A0 m c) A) (hm : m ≤ 4194304) :
   Calls Tryz.prog 50 #[.slice A0 m c] w (ParseP A w) := by
 obtain ⟨i0, hi, hz0, hz1, hz2⟩ := info_parts info_u8
 obtain ⟨hmA, hmc, hcm⟩ := h.sl.len
 have hmB : (m : Int) ≤ 4194304 := by omega
 have H := jI h
 have HM := jI (jA hmA (jA hmc hcm))
 clear h hmA hmc hcm
 go_enter Tryz.func50, Tryz.ntmps50
 go_wp2_with fail
 go_loopw [5, 6] (fun v uu wr => ∃ (u : Nat) (l : List (List UInt8)), uu = .int .i64 (u : Int) ∧ u ≤ m ∧ l.length ≤ u ∧ Sofar A l u ∧ OwnL wr w.heap.size (fun k => w.heap.size ≤ k) v l ∧ Below w.heap.size w wr) (fun _ uu _ => m - (intOf uu).toNat)
 case atStart => exact ⟨0, [], rfl, Nat.zero_le _, Nat.le_refl _, sofar_start A, OwnL.nil_ _ _ _, Below.refl _ _⟩
 case round =>
   obtain ⟨u, l, rfl, hum, hlu, hso, how, hbw⟩ := hrel
   have HS := jI (jA hso (jA hlu hum))
   have HO := jI (jA how hbw)
   obtain ⟨Av, cv, rfl, -, -⟩ := how.form
   clear hso how hbw hlu
   have iu : (u : Int) ≤ (m : Int) := by omega
   have iw : IntKind.i64.wrap ((m : Int) - (u : Int)) = (m : Int) - (u : Int) := IntWalk.i64_in _ (by omega)
   by_cases h5 : m - u < 5
   · have R := jI (roomZ_no (k := (m : Int) - (u : Int)) (by omega))
     have hrd := sofar_short HS.out.1 (by have := HM.out.1; omega)
     have HRD := jI hrd
     clear hrd
     go_wp2_with (go_at_call 53; go_must (refine (room_any _ _ (by omega) (by omega)).mono ?_; rintro y w3 ⟨rfl, rfl⟩; rw [R.out]))
     go_ret3
     exact ParseP.yes HRD.out HO.out.1 HO.out.2
   · have R := jI (roomZ_yes (k := (m : Int) - (u : Int)) (by omega))
     obtain ⟨b, off, rfl, hc⟩ := sl_at H.out HM.out.1.symm (by omega)
     have hblt : b < w.heap.size := World.block_lt_of_cell? w ⟨b, off + u, none⟩ (hc u (by omega))
     have g0 := (HO.out.2.cell (p := ⟨b, off + u, none⟩) hblt).trans (hc u (by omega))
     have HC := jI (jA hblt hc)
     obtain ⟨x, hx⟩ : ∃ x, x = A.getD u 0 := ⟨_, rfl⟩
     rw [← hx] at g0
     have iu2 : (u : Int) < (m : Int) := by omega
     have iu3 : (u : Int) + 5 ≤ (m : Int) := by omega
     have iu0 : (0 : Int) ≤ (u : Int) := by omega
     have iun : u < m := by omega
     clear hc hblt
     by_cases hz : x = 0
     · have HRD := jI (sofar_zero HS.out.1 (by have := HM.out.1; omega) (hx.symm.trans hz))
       subst hz
       have g0' : wr.cell? ⟨b, off + u, none⟩ = some (.int .u8 0) := g0
       clear g0 hx
       go_wp2_with (go_at_call 53; go_must (refine (room_any _ _ (by omega) (by omega)).mono ?_; rintro y w3 ⟨rfl, rfl⟩; rw [R.out]))
       go_ret3
       exact ParseP.yes HRD.out HO.out.1 HO.out.2
     · have hxn : ((x.toNat : Int) == 0) = false := by
         rw [beq_eq_false_iff_ne]
         intro e
         exact hz (UInt8.toNat_inj.1 (by simpa using e))
       have huc : (u : Int) + 5 ≤ (c : Int) := by have := HM.out.2.1; omega
       have hcu : ¬ c = u + 1 := by have := HM.out.2.1; omega
       have hsl : SlT wr (fun k => k < w.heap.size) (.slice (some ⟨b, off + (u + 1), none⟩) 4 (c - (u + 1))) ((A.drop (u + 1)).take 4) := by
         have h1 := ((SlT.cut H.out.sl.toT (k := u + 1) (by have := HM.out.1; omega)).kept (w' := wr) fun k hk _ => HO.out.2.block k hk).front (k := 4) (by rw [List.length_drop]; have := HM.out.1; omega)
         rw [if_neg hcu] at h1
         exact h1
       have hl4 : ((A.drop (u + 1)).take 4).length = 4 := by rw [List.length_take, List.length_drop]; have := HM.out.1; omega
       obtain ⟨nn, hnn⟩ : ∃ nn, nn = numL ((A.drop (u + 1)).take 4) := ⟨_, rfl⟩
       have hnb : nn ≤ 4294967295 := by
         have h1 := numL_lt 4 (A.drop (u + 1)) (by omega)
         rw [hnn]; exact h1
       obtain ⟨b', o', he, hcs⟩ := sl_at hsl hl4 (by omega)
       injection he with he
       injection he with he1 he2
       subst he1
       subst he2
       have cl := fun c' => length_cells b (off + (u + 1)) c' _ wr hl4 hcs
       rw [← hnn] at cl
       have CL := jI cl
       have HX := jI (jA hx hnn)
       have hnbI : (nn : Int) ≤ 4294967295 := by omega
       clear hx hsl hl4 cl hnn hcs
       by_cases hx1 : x = 1
       · subst hx1
         have g1 : wr.cell? ⟨b, off + u, none⟩ = some (.int .u8 1) := g0
         clear g0 hz hxn
         by_cases hfit : nn + 5 ≤ m - u
         · have ifit : ¬ ((m : Int) - (u : Int) - 5 < (nn : Int)) := by omega
           have inn : (nn : Int) ≤ 4194304 := by omega
           have iu5 : (u : Int) + 5 + (nn : Int) ≤ (m : Int) := by omega
           have iu5' : u + 5 ≤ m := by omega
           have isum : (m : Int) - ((u : Int) + 5) = ((m - (u + 5) : Nat) : Int) := by omega
           have ISUM := jI isum
           have hyl : ((A.drop (u + 5)).take nn).length = nn := by rw [List.length_take, List.length_drop]; have := HM.out.1; omega
           have HYL := jI hyl
           have hso2 := sofar_rec HS.out.1 (n := nn) (by have := HM.out.1; omega) HX.out.1.symm HX.out.2.symm (by have := HM.out.1; omega)
           have HSO2 := jI hso2
           obtain ⟨z, hz⟩ : ∃ z, z = wr.heap.size := ⟨_, rfl⟩
           have HZ := jI hz
           clear isum hyl hso2 hz
           by_cases hca : c = u + 5
           case' pos => subst hca
           all_goals
             go_upto_region 8 with (first
               | (at_make; go_must (refine wpList_make_full _ rfl _ _ 33 rfl wr.heap.size 5 i0 _ 1 Tryz.underlying33 hi hz0 hz1 .i64 .i64 _ _ nn rfl rfl rfl rfl (by rw [hz2]; omega) (by unfold maxLen; omega) (Nat.le_refl _) ?_; intro w2 ho2 hg2; have O2 := jI (jA ho2 ((Below.refl wr.heap.size wr).grown hg2 (Nat.le_refl _) (fun k hk => by cases hk))); rw [← HZ.out]; clear ho2 hg2))
               | (go_at_call 53; go_must (refine (room_any _ _ (by omega) (by omega)).mono ?_; rintro y w3 ⟨rfl, rfl⟩; rw [R.out]))
               | (go_at_call 91; go_must (refine (CL.out _).mono ?_; rintro y w3 ⟨rfl, rfl⟩)))
             obtain ⟨zs, HO2⟩ : ∃ zs, Hid (w2.ownsRow z 5 1 (.slice (some ⟨z, 0, none⟩) nn nn) nn zs ∧ Below z wr w2) := ⟨_, by rw [HZ.out]; exact O2⟩
             clear O2
             have HSRC := jI (src_of (W := w2) (fun t ht => ((HO.out.2.trans (HO2.out.2.mono (by rw [HZ.out]; exact HO.out.2.size))).cell (p := ⟨b, off + t, none⟩) HC.out.1).trans (HC.out.2 t ht)) HM.out.1 (u + 5) nn (by omega))
             go_upto_region 9 with (with_reducible refine wpList_copy_rowE rfl (.tmp 46) (.tmp 50) 33 33 rfl 5 Tryz.underlying33 size_u8 z z nn nn _ HO2.out.1 _ _ _ _ _ _ rfl rfl 0 (Lib.byteCells ((A.drop (u + 5)).take nn)) ?_ ?_ ?_ ?_ ?_)
             · rw [byteCells_len, HYL.out]; exact (Nat.min_eq_right (by omega)).symm
             · intro h0
               have h0' : 0 < nn := by rw [byteCells_len, HYL.out] at h0; exact h0
               first
                 | (exfalso; have := HM.out.2.1; omega)
                 | exact ⟨rfl, _, rfl, HSRC.out⟩
                 | exact (fun j v hj => by have := HSRC.out j v hj; rwa [Lib.add_plain] at this)
             · rw [byteCells_len, HYL.out]; omega
             · exact byteCells_one _
             · intro w3 ho hg
               have e : splice zs 0 (Lib.byteCells ((A.drop (u + 5)).take nn)) = Lib.byteCells ((A.drop (u + 5)).take nn) := by
                 have hz : zs.length = nn * 1 := HO2.out.1.1
                 unfold splice
                 rw [byteCells_len, HYL.out, show zs.drop (0 + nn) = [] from List.drop_eq_nil_of_le (by omega)]
                 simp
               rw [e] at ho
               have hzl : z < w3.heap.size := (ho.lt z rfl).2
               have hb3 := HO2.out.2.grown hg (by rw [HZ.out]; exact Nat.le_trans (Nat.le_refl _) (by have := HO2.out.2.size; rw [← HZ.out]; rw [← HZ.out] at this; exact this)) (fun k hk => by injection hk with hk; rw [← hk]; exact Nat.le_refl _)
               have hy3 := SlT.of_own (T := fun k => k = z) (show w3.ownsRow z 5 1 (.slice (some ⟨z, 0, none⟩) nn nn) ((A.drop (u + 5)).take nn).length (Lib.byteCells ((A.drop (u + 5)).take nn)) by rw [HYL.out]; exact ho) (fun g hk => by injection hk with hk; exact hk.symm)
               have Y3 := jI (jA hy3 (jA hzl hb3))
               clear e ho hg hzl hb3 hy3
               have hb3 : Below wr.heap.size wr w3 := by rw [← HZ.out]; exact Y3.out.2.2
               have hb4 := hb3.alloc hb3.size (.cells #[.slice (some ⟨z, 0, none⟩) nn nn] 33)
               have ow4 := HO.out.1.more hb4
               have hy4 : SlT (w3.alloc (.cells #[.slice (some ⟨z, 0, none⟩) nn nn] 33)) (fun k => w.heap.size ≤ k ∧ k < (w3.alloc (.cells #[.slice (some ⟨z, 0, none⟩) nn nn] 33)).heap.size ∧ (Value.slice Av l.length cv).ownBlock ≠ some k) (.slice (some ⟨z, 0, none⟩) nn nn) ((A.drop (u + 5)).take nn) :=
                 (Y3.out.1.kept fun k hk hl => Below.heap_alloc w3 _ k hl).mono fun k hk => ⟨by rw [hk, HZ.out]; exact HO.out.2.size, by rw [hk, World.size_alloc]; have := Y3.out.2.1; omega, fun e => by
                   have := (HO.out.1.lt k e).2
                   rw [hk, HZ.out] at this
                   omega⟩
               have X4 := jI (jA ow4 (jA hy4 hb4))
               clear ow4 hy4 hb3 hb4
               go_wp2_with (at_builtin; go_must (refine wpList_push X4.out.1 rfl (.tmp 52) (.tmp 54) rfl rfl w3.heap.size _ nn nn rfl (heap_alloc_new w3 _) _ X4.out.2.1 (by have := HS.out.2; omega) (Nat.le_trans HO.out.2.size X4.out.2.2.size) ?_; intro v5 w5 ho5 hg5 _; have O5 := jI (jA ho5 ((HO.out.2.trans (X4.out.2.2.mono HO.out.2.size)).grown hg5 (Nat.le_trans HO.out.2.size X4.out.2.2.size) (fun k hk => (X4.out.1.lt k hk).1))); clear ho5 hg5))
               go_roundw
               case rel => exact ⟨u + (5 + nn), l ++ [(A.drop (u + 5)).take nn], by go_num, by omega, by rw [List.length_append]; have := HS.out.2.1; simp; omega, HSO2.out, O5.out.1, O5.out.2⟩
               case measure => simp [intOf]; omega
         · have ifit : (m : Int) - (u : Int) - 5 < (nn : Int) := by omega
           have HRD := jI (sofar_bad HS.out.1 (by have := HM.out.1; omega) (by rw [← HX.out.1]; decide) (by rw [← HX.out.2]; have := HM.out.1; omega))
           go_wp2_with (first
             | (go_at_call 53; go_must (refine (room_any _ _ (by omega) (by omega)).mono ?_; rintro y w3 ⟨rfl, rfl⟩; rw [R.out]))
             | (go_at_call 91; go_must (refine (CL.out _).mono ?_; rintro y w3 ⟨rfl, rfl⟩)))
           go_ret3
           exact ParseP.no HRD.out HO.out.2
       · have hx1n : ¬ (x.toNat : Int) = 1 := fun e => hx1 (UInt8.toNat_inj.1 (by show x.toNat = 1; omega))
         have HRD := jI (sofar_bad HS.out.1 (by have := HM.out.1; omega) (by rw [← HX.out.1]; exact hz) (fun e => hx1 (HX.out.1.trans e.1)))
         go_wp2_with (first
           | (go_at_call 53; go_must (refine (room_any _ _ (by omega) (by omega)).mono ?_; rintro y w3 ⟨rfl, rfl⟩; rw [R.out]))
           | (go_at_call 91; go_must (refine (CL.out _).mono ?_; rintro y w3 ⟨rfl, rfl⟩)))
         go_ret3
         exact ParseP.no HRD.out HO.out.2
end
section
section
variable {C : ConD} {w w' : World} {S S' : Nat → Prop} {q p : Nat} {d d' : Dk} {t : Tm}
theorem readB_len {d : Dk} {at_ len : Int} (hok : d.Ok) (h : badE d at_ len = 0) : ((readB d at_ len).length : Int) = len := by
 obtain ⟨h1, h2, h3, h4, -⟩ := badE_in h
 unfold readB
 rw [if_pos h, List.length_take, List.length_drop, hok.now]
 omega
set_option maxHeartbeats 2000000 in
theorem Open_yes (h : C.DK w S p d) (at_ len : Nat) (ha : inI at_) (hl : inI len) (h5 : 5 ≤ len) (hb : badE d at_ len = 0) (l : List (List UInt8)) (k : Nat) (hr : readT (readB d at_ len) = some (l, k)) :
   Calls Tryz.prog 23 #[.pointer (some ⟨p, 0, none⟩), .agg #[.int .i64 (at_ : Int), .int .i64 (len : Int)]] w fun y w' => ∃ q v, y = .returned (.tuple #[.pointer (some ⟨q, 0, none⟩), v, .nilIface]) ∧ TBox w' q p ⟨at_, len, k, l.length, 0⟩ ∧
     OwnL w' w.heap.size (fun k => w.heap.size ≤ k) v l ∧ w.heap.size ≤ q ∧ v.ownBlock ≠ some q ∧ Below w.heap.size w w' := by
 have hba := (Below.refl w.heap.size w).alloc (Nat.le_refl _) (.cells #[.int .i64 (at_ : Int), .int .i64 (len : Int)] 64)
 have hdk := C.frame h fun k hk => hba.block k (C.foot h k hk)
 have cr := C.cRead _ S p d at_ len hdk ha hl
 have hok := (C.ok h).1
 have hB := (C.ok h).2.2
 have hrl := readB_len hok hb
 have hin := badE_in hb
 rw [hb, er_zero] at cr
 have CR := jI cr
 have HR := jI hr
 have HRL := jI (show (readB d at_ len).length ≤ 4194304 by omega)
 have HB := jI hba
 have i5 : ¬ (len : Int) < 5 := by omega
 have hnew := heap_alloc_new w (.cells #[.int .i64 (at_ : Int), .int .i64 (len : Int)] 64)
 have HN := jI hnew
 clear hba ha hl cr hok hB hb hr hrl hin hdk h h5 hnew
 go_enter Tryz.func23, Tryz.ntmps23
 go_upto_region 9 with (first
   | (go_at_call 49; go_must (refine CR.out.mono ?_; rintro y w2 ⟨v2, rfl, h2, hb2⟩; obtain ⟨A2, n2, c2, rfl⟩ := h2.form; have T2 := jI (jA h2 (jA (HB.out.trans (hb2.mono HB.out.size)) hb2)); clear h2 hb2))
   | (go_at_call 50; go_must (refine (parse_any _ A2 n2 c2 _ w2 T2.out.1 (by have := T2.out.1.sl.len.1; have := HRL.out; omega)).mono ?_; rintro y w3 ⟨hb3, hm⟩; rw [HR.out] at hm; obtain ⟨v3, rfl, ho3⟩ := hm; obtain ⟨A3, c3, rfl, -, -⟩ := ho3.form; have T3 := jI (jA ho3 (jA (T2.out.2.1.trans (hb3.mono T2.out.2.1.size)) (jA hb3 ((hb3.mono (Nat.le_refl _)).block w.heap.size (Nat.lt_of_lt_of_le (by rw [World.size_alloc]; omega) T2.out.2.2.size))))); clear hb3 ho3)))
 have hbx : w3.heap[w.heap.size]? = some (.cells #[.int .i64 (at_ : Int), .int .i64 (len : Int)] 64 (0, 0)) :=
   T3.out.2.2.2.trans ((T2.out.2.2.block w.heap.size (by rw [World.size_alloc]; omega)).trans HN.out)
 have x0 : w3.cell? ⟨w.heap.size, 0, none⟩ = some (.int .i64 (at_ : Int)) := by rw [cell_of_row w3 _ _ _ _ (0, 0) hbx]; rfl
 have x1 : w3.cell? ⟨w.heap.size, 1, none⟩ = some (.int .i64 (len : Int)) := by rw [cell_of_row w3 _ _ _ _ (0, 0) hbx]; rfl
 clear hbx
 go_wp2_with fail
 go_ret3
 have hB := T3.out.2.1
 refine ⟨_, _, rfl, heap_alloc_new w3 _, (T3.out.1.mono T2.out.2.1.size (fun k hk => Nat.le_trans T2.out.2.1.size hk)).more ((Below.refl _ _).alloc (Nat.le_refl _) _), hB.size, fun e => ?_, hB.alloc hB.size _⟩
 have := (T3.out.1.lt _ e).2
 omega
end
end
section
structure LT (C : ConD) (w0 w : World) (S : Nat → Prop) (q p : Nat) (d : Dk) (t : Tm) : Prop where
 tp : Tp C w S q p d t
 low : ∀ k, S k → w0.heap.size ≤ k
 lowq : w0.heap.size ≤ q
 below : Below w0.heap.size w0 w
section
variable {C : ConD} {w0 w w' : World} {S S' : Nat → Prop} {q p : Nat} {d d' : Dk} {t t' : Tm} {l : List (List UInt8)} {at_ len : Nat}
theorem LT.size (h : LT C w0 w S q p d t) : w0.heap.size ≤ w.heap.size := h.below.size
theorem LT.live (h : LT C w0 w S q p d t) : Live C w0 w S p d := ⟨h.tp.dk, h.low, h.below⟩
theorem LT.more (h : LT C w0 w S q p d t) (hb : Below w.heap.size w w') : LT C w0 w' S q p d t := ⟨h.tp.more hb, h.low, h.lowq, h.below.trans (hb.mono h.size)⟩
theorem sq_low (hS : ∀ k, S k → w0.heap.size ≤ k) (hq : w0.heap.size ≤ q) : ∀ k, SQ S q k → w0.heap.size ≤ k := fun k hk => by
 rcases hk with hk | hk
 · exact hS k hk
 · rw [hk]; exact hq
theorem LT.turn (h : LT C w0 w S q p d t) (hd : Tp C w' S' q p d' t') (ht : Turn (SQ S q) (SQ S' q) w w') : LT C w0 w' S' q p d' t' :=
 ⟨hd, fun k hk => ht.low (sq_low h.low h.lowq) h.size k (Or.inl hk), h.lowq, h.below.trans (ht.kept.below (sq_low h.low h.lowq) h.size)⟩
theorem LT.arg (h : LT C w0 w S q p d t) {v : Value} {bs : List UInt8} (ha : SlT w (fun k => k < w0.heap.size) v bs) : SlT w (Av w (SQ S q)) v bs :=
 ha.mono fun k hk => ⟨Nat.lt_of_lt_of_le hk h.size, fun hs => by have := sq_low h.low h.lowq k hs; omega⟩
theorem LT.lit (h : LT C w0 w S q p d t) (ty : Nat) (bs : List UInt8) (hl : bs.length ≤ 9223372036854775807) (fz : Nat × Nat := (0, 0)) :
   SlT (w.alloc (.cells (bs.map fun b => Value.int .u8 (b.toNat : Int)).toArray ty fz)) (Av (w.alloc (.cells (bs.map fun b => Value.int .u8 (b.toNat : Int)).toArray ty fz)) (SQ S q)) (.slice (some ⟨w.heap.size, 0, none⟩) bs.length bs.length) bs := by
 have hs : ∀ k, SQ S q k → k < w.heap.size := fun k hk => by
   rcases hk with hk | hk
   · exact C.foot h.tp.dk k hk
   · rw [hk]; exact h.tp.box.lt
 refine ⟨some ⟨w.heap.size, 0, none⟩, bs.length, rfl, Nat.le_refl _, hl, Or.inr ⟨w.heap.size, 0, rfl, ⟨by rw [World.size_alloc]; omega, fun hk => by have := hs _ hk; omega⟩, fun j hj => ?_⟩⟩
 rw [cell_of_row _ w.heap.size _ _ _ fz (heap_alloc_new w _)]
 simp [List.getD, List.getElem?_eq_getElem hj]
theorem encL_ge (l : List (List UInt8)) : l.length ≤ (encL l).length := by
 induction l with
 | nil => simp
 | cons b l ih => rw [encL_cons, List.length_append, enc1_len, List.length_cons]; omega
theorem TState.fits (h : TState d t l) : t.fin ≤ t.len := by
 rw [h.fin]
 have := h.lies.fits
 rwa [area_len h.inside] at this
structure Rests (d : Dk) (at_ len : Nat) (l : List (List UInt8)) : Prop where
 on : d.off = false
 calm : d.L = []
 inside : at_ + len ≤ d.B.length
 five : 5 ≤ len
 lies : Lies (areaT d.B at_ len) l
theorem Rests.state (h : Rests d at_ len l) : TState d (openT at_ len l) l := ⟨h.on, h.calm, h.inside, h.five, h.lies, rfl, rfl, rfl⟩
theorem Rests.read (h : Rests d at_ len l) : badE d at_ len = 0 ∧ readB d at_ len = areaT d.B at_ len := by
 have h1 : badE d at_ len = 0 := by
   unfold badE
   have := h.inside
   rw [if_pos ⟨by omega, by omega, by omega, by omega⟩, h.on]
   rfl
 refine ⟨h1, ?_⟩
 unfold readB Dk.now
 rw [if_pos h1, h.calm]
 rfl
theorem TState.rests (h : TState d t l) : Rests d t.at_ t.len l := ⟨h.on, h.calm, h.inside, h.five, h.lies⟩
theorem live_open (h : Live C w0 w S p d) (at_ len : Nat) (hr : Rests d at_ len l) :
   Calls Tryz.prog 23 #[.pointer (some ⟨p, 0, none⟩), .agg #[.int .i64 (at_ : Int), .int .i64 (len : Int)]] w fun y w' => ∃ q v, y = .returned (.tuple #[.pointer (some ⟨q, 0, none⟩), v, .nilIface]) ∧ LT C w0 w' S q p d (openT at_ len l) ∧
     OwnL w' w.heap.size (fun k => w.heap.size ≤ k) v l ∧ w.heap.size ≤ q ∧ v.ownBlock ≠ some q ∧ Below w.heap.size w w' := by
 have hB := (C.ok h.dk).2.2
 have hin := hr.inside
 have h5 := hr.five
 obtain ⟨h1, h2⟩ := hr.read
 refine (Open_yes h.dk at_ len (by unfold inI; omega) (by unfold inI; omega) h5 h1 l (encL l).length (by rw [h2]; exact readT_lies hr.lies)).mono fun y w' ⟨q, v, hy, hbx, ho, hq, hvq, hb⟩ => ⟨q, v, hy, ?_, ho, hq, hvq, hb⟩
 have hn : ¬ S q := fun hs => by have := C.foot h.dk q hs; omega
 exact ⟨⟨C.frame h.dk fun k hk => hb.block k (C.foot h.dk k hk), hbx, hn, hin, h5, hr.state.fits, encL_ge l⟩, h.low, by have := h.size; omega, h.below.trans (hb.mono h.size)⟩
theorem lt_append (h : LT C w0 w S q p d t) (hs : TState d t l) (A : Option Addr) (m c : Nat) (b : List UInt8) (hm : b.length ≤ 1048576) (hr : t.fin + 5 + b.length ≤ t.len) (hx : SlT w (fun k => k < w0.heap.size) (.slice A m c) b) :
   Calls Tryz.prog 24 #[.pointer (some ⟨q, 0, none⟩), .slice A m c] w fun r w' => ∃ S', r = .returned (er (appS d t b).2) ∧ LT C w0 w' S' q p (appS d t b).1 (appT t b (appS d t b).2) ∧ Turn (SQ S q) (SQ S' q) w w' := by
 obtain ⟨hm', -, -⟩ := hx.sl.len
 subst hm'
 exact (Append_go h.tp hs.alive (by rw [hs.calm]; exact (by decide : 0 < 99990)) A c b hm hr (h.arg hx)).mono fun _ _ ⟨S', hy, hT, hTu⟩ => ⟨S', hy, h.turn hT hTu, hTu⟩
theorem lt_append_new (h : LT C w0 w S q p d t) (hs : TState d t l) (A : Option Addr) (m c : Nat) (b : List UInt8) (hm : b.length ≤ 1048576) (hr : t.fin + 5 + b.length ≤ t.len) (hx : SlT w (Av w (SQ S q)) (.slice A m c) b) :
   Calls Tryz.prog 24 #[.pointer (some ⟨q, 0, none⟩), .slice A m c] w fun r w' => ∃ S', r = .returned (er (appS d t b).2) ∧ LT C w0 w' S' q p (appS d t b).1 (appT t b (appS d t b).2) ∧ Turn (SQ S q) (SQ S' q) w w' := by
 obtain ⟨hm', -, -⟩ := hx.sl.len
 subst hm'
 exact (Append_go h.tp hs.alive (by rw [hs.calm]; exact (by decide : 0 < 99990)) A c b hm hr hx).mono fun _ _ ⟨S', hy, hT, hTu⟩ => ⟨S', hy, h.turn hT hTu, hTu⟩
theorem append_calm (hs : TState d t l) (ha : d.armed < 0) {b : List UInt8} (hb : t.fin + 5 + b.length ≤ t.len) (hm : b.length ≤ 1048576) :
   (appS d t b).2 = 0 ∧ TState (appS d t b).1 (appT t b 0) (l ++ [b]) ∧ areaT (appS d t b).1.B t.at_ t.len = put1 (put1 (areaT d.B t.at_ t.len) (t.fin + 1) (appW t b)) t.fin [1] ∧ (appS d t b).1.B.length = d.B.length ∧ (∀ j, ¬ (t.at_ ≤ j ∧ j < t.at_ + t.len) → (appS d t b).1.B.getD j 0 = d.B.getD j 0) := by
 rcases append_steps hs hb (by omega) with h | h
 · exact h
 · have := h.2.2.1; omega
theorem chain_armed {x : Dk × Nat} {f : Dk → Dk × Nat} (hx : x.1.armed < 0) (hf : ∀ d : Dk, d.armed < 0 → (f d).1.armed < 0) : (chainS x f).1.armed < 0 := by
 unfold chainS
 by_cases h : x.2 = 0
 · rw [if_pos h]; exact hf _ hx
 · rw [if_neg h]; exact hx
theorem stepD_armed (d : Dk) (h : d.armed < 0) : (stepD d).armed < 0 := by
 unfold stepD
 rw [if_neg (by omega), if_neg (by omega)]
 exact h
theorem put_armed (k : Nat) (x : List UInt8) (d : Dk) (h : d.armed < 0) : (putS k x d).1.armed < 0 := by
 show (putD d k x).armed < 0
 unfold putD
 by_cases hb : badE d (k : Int) x.length = 0
 · rw [if_pos hb]; exact stepD_armed _ h
 · rw [if_neg hb]; exact h
theorem sync_armed (d : Dk) (h : d.armed < 0) : (syncS d).1.armed < 0 := by
 show (syncD d).armed < 0
 unfold syncD
 by_cases ho : d.off = true
 · rw [if_pos ho]; exact h
 · rw [if_neg ho]
   by_cases he : stepE d = 0
   · rw [if_pos he]; exact stepD_armed _ h
   · rw [if_neg he]; exact stepD_armed _ h
theorem app_armed (t : Tm) (b : List UInt8) (h : d.armed < 0) : (appS d t b).1.armed < 0 :=
 chain_armed (chain_armed (chain_armed (put_armed _ _ d h) sync_armed) (put_armed _ _)) sync_armed
theorem res_armed (t : Tm) (h : d.armed < 0) : (resS d t).1.armed < 0 := chain_armed (put_armed _ _ d h) sync_armed
theorem rests_new (n at_ len : Nat) (h : at_ + len ≤ n) (h5 : 5 ≤ len) : Rests (newD n) at_ len [] := by
 have hl : (newD n).B.length = n := List.length_replicate
 refine ⟨rfl, rfl, by rw [hl]; exact h, h5, ⟨by simp [encL], by simp [encL], fun _ => ?_, fun b hb => by cases hb⟩⟩
 show (areaT (newD n).B at_ len).getD 0 1 = 0
 rw [area_get 0 (by omega)]
 show (List.replicate n (0 : UInt8)).getD (at_ + 0) 1 = 0
 simp [List.getD, show at_ < n by omega]
end
end
end Go.Proofs.YtncaefocijainaaGreatDoor.pk
