/-
  The tape's own parse: walked.
-/
import Derived.Test.YthcikgbnenfjpaaDoorTapF
import Derived.Test.YthcikgbnenfjpaaDoorLists
import Derived.Test.YthcikgbnenfjpaaDoorMineB
import Derived.Outline
namespace Go.Proofs.YthcikgbnenfjpaaDoor.pk
open Go Go.RowKit
set_option maxRecDepth 100000

theorem roomZ_no {k : Int} (h : k < 5) : roomZ k = -1 := if_pos h
theorem roomZ_yes {k : Int} (h : 5 ≤ k) : roomZ k = k - 5 := if_neg (by omega)

theorem src_of {W : World} {b off m : Nat} {A : List UInt8} (hc : ∀ t, t < m → W.cell? ⟨b, off + t, none⟩ = some (.int .u8 ((A.getD t 0).toNat : Int))) (hm : m = A.length) (at_ k : Nat) (hk : at_ + k ≤ m) (j : Nat) (v : Value)
    (hj : (Lib.byteCells ((A.drop at_).take k))[j]? = some v) : W.cell? ((⟨b, off + at_, none⟩ : Addr).add j) = some v := by
  rw [byteCells_get, List.getElem?_take] at hj
  split at hj
  · rw [List.getElem?_drop] at hj
    obtain ⟨y, hy, rfl⟩ := Option.map_eq_some_iff.1 hj
    rw [Lib.add_plain, Nat.add_assoc, hc (at_ + j) (by omega)]
    simp [List.getD, hy]
  · cases hj

/-- What parse answers. -/
def ParseP (A : List UInt8) (w : World) (y : Ending) (w' : World) : Prop := Below w.heap.size w w' ∧ match readT A with
      | none => y = .returned (.tuple #[.slice none 0 0, .int .i64 0, er 14])
      | some (l, k) => ∃ v, y = .returned (.tuple #[v, .int .i64 (k : Int), .nilIface]) ∧ OwnL w' w.heap.size (fun k => w.heap.size ≤ k) v l
theorem ParseP.yes {A : List UInt8} {w w' : World} {l : List (List UInt8)} {k : Nat} {v : Value} (h : readT A = some (l, k)) (ho : OwnL w' w.heap.size (fun k => w.heap.size ≤ k) v l) (hb : Below w.heap.size w w') : ParseP A w (.returned (.tuple #[v, .int .i64 (k : Int), .nilIface])) w' :=
  ⟨hb, by rw [h]; exact ⟨v, rfl, ho⟩⟩
theorem ParseP.no {A : List UInt8} {w w' : World} (h : readT A = none) (hb : Below w.heap.size w w') : ParseP A w (.returned (.tuple #[.slice none 0 0, .int .i64 0, er 14])) w' :=
  ⟨hb, by rw [h]⟩

set_option maxHeartbeats 4000000 in
theorem parse_any (T : Nat → Prop) (A0 : Option Addr) (m c : Nat) (A : List UInt8) (w : World) (h : SlT w T (.slice A0 m c) A) (hm : m ≤ 4194304) :
    Calls Tryd.prog 30 #[.slice A0 m c] w (ParseP A w) := by
  obtain ⟨i0, hi, hz0, hz1, hz2⟩ := info_parts info_u8
  obtain ⟨hmA, hmc, hcm⟩ := h.sl.len
  have hmB : (m : Int) ≤ 4194304 := by omega
  have H := Lib.hid h
  have HM := Lib.hid (And.intro hmA (And.intro hmc hcm))
  clear h hmA hmc hcm
  go_enter Tryd.func30, Tryd.ntmps30
  go_wp2_with fail
  go_loopw [5, 6] (fun v uu wr => ∃ (u : Nat) (l : List (List UInt8)), uu = .int .i64 (u : Int) ∧ u ≤ m ∧ l.length ≤ u ∧ Sofar A l u ∧ OwnL wr w.heap.size (fun k => w.heap.size ≤ k) v l ∧ Below w.heap.size w wr) (fun _ uu _ => m - (intOf uu).toNat)
  case atStart => exact ⟨0, [], rfl, Nat.zero_le _, Nat.le_refl _, sofar_start A, OwnL.nil_ _ _ _, Below.refl _ _⟩
  case round =>
    obtain ⟨u, l, rfl, hum, hlu, hso, how, hbw⟩ := hrel
    have HS := Lib.hid (And.intro hso (And.intro hlu hum))
    have HO := Lib.hid (And.intro how hbw)
    obtain ⟨Av, cv, rfl, -, -⟩ := how.form
    clear hso how hbw hlu
    have iu : (u : Int) ≤ (m : Int) := by omega
    have iw : IntKind.i64.wrap ((m : Int) - (u : Int)) = (m : Int) - (u : Int) := IntWalk.i64_in _ (by omega)
    by_cases h5 : m - u < 5
    · have R := Lib.hid (roomZ_no (k := (m : Int) - (u : Int)) (by omega))
      have hrd := sofar_short HS.out.1 (by have := HM.out.1; omega)
      have HRD := Lib.hid hrd
      clear hrd
      go_wp2_with (go_at_call 32; go_must (refine (room_any _ _ (by omega) (by omega)).mono ?_; rintro y w3 ⟨rfl, rfl⟩; rw [R.out]))
      go_ret3
      exact ParseP.yes HRD.out HO.out.1 HO.out.2
    · have R := Lib.hid (roomZ_yes (k := (m : Int) - (u : Int)) (by omega))
      obtain ⟨b, off, rfl, hc⟩ := sl_at H.out HM.out.1.symm (by omega)
      have hblt : b < w.heap.size := World.block_lt_of_cell? w ⟨b, off + u, none⟩ (hc u (by omega))
      have g0 := (HO.out.2.cell (p := ⟨b, off + u, none⟩) hblt).trans (hc u (by omega))
      have HC := Lib.hid (And.intro hblt hc)
      obtain ⟨x, hx⟩ : ∃ x, x = A.getD u 0 := ⟨_, rfl⟩
      rw [← hx] at g0
      have iu2 : (u : Int) < (m : Int) := by omega
      have iu3 : (u : Int) + 5 ≤ (m : Int) := by omega
      have iu0 : (0 : Int) ≤ (u : Int) := by omega
      have iun : u < m := by omega
      clear hc hblt
      by_cases hz : x = 0
      · have HRD := Lib.hid (sofar_zero HS.out.1 (by have := HM.out.1; omega) (hx.symm.trans hz))
        subst hz
        have g0' : wr.cell? ⟨b, off + u, none⟩ = some (.int .u8 0) := g0
        clear g0 hx
        go_wp2_with (go_at_call 32; go_must (refine (room_any _ _ (by omega) (by omega)).mono ?_; rintro y w3 ⟨rfl, rfl⟩; rw [R.out]))
        go_ret3
        exact ParseP.yes HRD.out HO.out.1 HO.out.2
      · have hxn : ((x.toNat : Int) == 0) = false := by
          rw [beq_eq_false_iff_ne]
          intro e
          exact hz (UInt8.toNat_inj.1 (by simpa using e))
        have huc : (u : Int) + 5 ≤ (c : Int) := by have := HM.out.2.1; omega
        have hcu : ¬ c = u + 1 := by have := HM.out.2.1; omega
        have hsl : SlT wr (fun k => k < w.heap.size) (.slice (some ⟨b, off + (u + 1), none⟩) 4 (c - (u + 1))) ((A.drop (u + 1)).take 4) := by
          have h1 := ((SlT.cut H.out.sl.toT (k := u + 1) (by have := HM.out.1; omega)).kept (w' := wr) fun k hk _ => HO.out.2.block k hk).front (k := 4) (by rw [List.length_drop]; have := HM.out.1; omega)
          rw [if_neg hcu] at h1
          exact h1
        have hl4 : ((A.drop (u + 1)).take 4).length = 4 := by rw [List.length_take, List.length_drop]; have := HM.out.1; omega
        obtain ⟨nn, hnn⟩ : ∃ nn, nn = numL ((A.drop (u + 1)).take 4) := ⟨_, rfl⟩
        have hnb : nn ≤ 4294967295 := by
          have h1 := numL_lt 4 (A.drop (u + 1)) (by omega)
          rw [hnn]; exact h1
        obtain ⟨b', o', he, hcs⟩ := sl_at hsl hl4 (by omega)
        injection he with he
        injection he with he1 he2
        subst he1
        subst he2
        have cl := fun c' => length_cells b (off + (u + 1)) c' _ wr hl4 hcs
        rw [← hnn] at cl
        have CL := Lib.hid cl
        have HX := Lib.hid (And.intro hx hnn)
        have hnbI : (nn : Int) ≤ 4294967295 := by omega
        clear hx hsl hl4 cl hnn hcs
        by_cases hx1 : x = 1
        · subst hx1
          have g1 : wr.cell? ⟨b, off + u, none⟩ = some (.int .u8 1) := g0
          clear g0 hz hxn
          by_cases hfit : nn + 5 ≤ m - u
          · have ifit : ¬ ((m : Int) - (u : Int) - 5 < (nn : Int)) := by omega
            have inn : (nn : Int) ≤ 4194304 := by omega
            have iu5 : (u : Int) + 5 + (nn : Int) ≤ (m : Int) := by omega
            have iu5' : u + 5 ≤ m := by omega
            have isum : (m : Int) - ((u : Int) + 5) = ((m - (u + 5) : Nat) : Int) := by omega
            have ISUM := Lib.hid isum
            have hyl : ((A.drop (u + 5)).take nn).length = nn := by rw [List.length_take, List.length_drop]; have := HM.out.1; omega
            have HYL := Lib.hid hyl
            have hso2 := sofar_rec HS.out.1 (n := nn) (by have := HM.out.1; omega) HX.out.1.symm HX.out.2.symm (by have := HM.out.1; omega)
            have HSO2 := Lib.hid hso2
            obtain ⟨z, hz⟩ : ∃ z, z = wr.heap.size := ⟨_, rfl⟩
            have HZ := Lib.hid hz
            clear isum hyl hso2 hz
            by_cases hca : c = u + 5
            case' pos => subst hca
            all_goals
              go_upto_region 8 with (first
                | (at_make; go_must (refine wpList_make_full _ rfl _ _ 22 rfl wr.heap.size 5 i0 _ 1 Tryd.underlying22 hi hz0 hz1 .i64 .i64 _ _ nn rfl rfl rfl rfl (by rw [hz2]; omega) (by unfold maxLen; omega) (Nat.le_refl _) ?_; intro w2 ho2 hg2; have O2 := Lib.hid (And.intro ho2 ((Below.refl wr.heap.size wr).grown hg2 (Nat.le_refl _) (fun k hk => by cases hk))); rw [← HZ.out]; clear ho2 hg2))
                | (go_at_call 32; go_must (refine (room_any _ _ (by omega) (by omega)).mono ?_; rintro y w3 ⟨rfl, rfl⟩; rw [R.out]))
                | (go_at_call 36; go_must (refine (CL.out _).mono ?_; rintro y w3 ⟨rfl, rfl⟩)))
              obtain ⟨zs, HO2⟩ : ∃ zs, Hid (w2.ownsRow z 5 1 (.slice (some ⟨z, 0, none⟩) nn nn) nn zs ∧ Below z wr w2) := ⟨_, by rw [HZ.out]; exact O2⟩
              clear O2
              have HSRC := Lib.hid (src_of (W := w2) (fun t ht => ((HO.out.2.trans (HO2.out.2.mono (by rw [HZ.out]; exact HO.out.2.size))).cell (p := ⟨b, off + t, none⟩) HC.out.1).trans (HC.out.2 t ht)) HM.out.1 (u + 5) nn (by omega))
              go_upto_region 9 with (with_reducible refine wpList_copy_rowE rfl (.tmp 46) (.tmp 50) 22 22 rfl 5 Tryd.underlying22 size_u8 z z nn nn _ HO2.out.1 _ _ _ _ _ _ rfl rfl 0 (Lib.byteCells ((A.drop (u + 5)).take nn)) ?_ ?_ ?_ ?_ ?_)
              · rw [byteCells_len, HYL.out]; exact (Nat.min_eq_right (by omega)).symm
              · intro h0
                have h0' : 0 < nn := by rw [byteCells_len, HYL.out] at h0; exact h0
                first
                  | (exfalso; have := HM.out.2.1; omega)
                  | exact ⟨rfl, _, rfl, HSRC.out⟩
                  | exact (fun j v hj => by have := HSRC.out j v hj; rwa [Lib.add_plain] at this)
              · rw [byteCells_len, HYL.out]; omega
              · exact byteCells_one _
              · intro w3 ho hg
                have e : splice zs 0 (Lib.byteCells ((A.drop (u + 5)).take nn)) = Lib.byteCells ((A.drop (u + 5)).take nn) := by
                  have hz : zs.length = nn * 1 := HO2.out.1.1
                  unfold splice
                  rw [byteCells_len, HYL.out, show zs.drop (0 + nn) = [] from List.drop_eq_nil_of_le (by omega)]
                  simp
                rw [e] at ho
                have hzl : z < w3.heap.size := (ho.lt z rfl).2
                have hb3 := HO2.out.2.grown hg (by rw [HZ.out]; exact Nat.le_trans (Nat.le_refl _) (by have := HO2.out.2.size; rw [← HZ.out]; rw [← HZ.out] at this; exact this)) (fun k hk => by injection hk with hk; rw [← hk]; exact Nat.le_refl _)
                have hy3 := SlT.of_own (T := fun k => k = z) (show w3.ownsRow z 5 1 (.slice (some ⟨z, 0, none⟩) nn nn) ((A.drop (u + 5)).take nn).length (Lib.byteCells ((A.drop (u + 5)).take nn)) by rw [HYL.out]; exact ho) (fun g hk => by injection hk with hk; exact hk.symm)
                have Y3 := Lib.hid (And.intro hy3 (And.intro hzl hb3))
                clear e ho hg hzl hb3 hy3
                have hb3 : Below wr.heap.size wr w3 := by rw [← HZ.out]; exact Y3.out.2.2
                have hb4 := hb3.alloc hb3.size (.cells #[.slice (some ⟨z, 0, none⟩) nn nn] 22)
                have ow4 := HO.out.1.more hb4
                have hy4 : SlT (w3.alloc (.cells #[.slice (some ⟨z, 0, none⟩) nn nn] 22)) (fun k => w.heap.size ≤ k ∧ k < (w3.alloc (.cells #[.slice (some ⟨z, 0, none⟩) nn nn] 22)).heap.size ∧ (Value.slice Av l.length cv).ownBlock ≠ some k) (.slice (some ⟨z, 0, none⟩) nn nn) ((A.drop (u + 5)).take nn) :=
                  (Y3.out.1.kept fun k hk hl => Below.heap_alloc w3 _ k hl).mono fun k hk => ⟨by rw [hk, HZ.out]; exact HO.out.2.size, by rw [hk, World.size_alloc]; have := Y3.out.2.1; omega, fun e => by
                    have := (HO.out.1.lt k e).2
                    rw [hk, HZ.out] at this
                    omega⟩
                have X4 := Lib.hid (And.intro ow4 (And.intro hy4 hb4))
                clear ow4 hy4 hb3 hb4
                go_wp2_with (at_builtin; go_must (refine wpList_push X4.out.1 rfl (.tmp 52) (.tmp 54) rfl rfl w3.heap.size _ nn nn rfl (heap_alloc_new w3 _) _ X4.out.2.1 (by have := HS.out.2; omega) (Nat.le_trans HO.out.2.size X4.out.2.2.size) ?_; intro v5 w5 ho5 hg5 _; have O5 := Lib.hid (And.intro ho5 ((HO.out.2.trans (X4.out.2.2.mono HO.out.2.size)).grown hg5 (Nat.le_trans HO.out.2.size X4.out.2.2.size) (fun k hk => (X4.out.1.lt k hk).1))); clear ho5 hg5))
                go_roundw
                case rel => exact ⟨u + (5 + nn), l ++ [(A.drop (u + 5)).take nn], by go_num, by omega, by rw [List.length_append]; have := HS.out.2.1; simp; omega, HSO2.out, O5.out.1, O5.out.2⟩
                case measure => simp [intOf]; omega
          · have ifit : (m : Int) - (u : Int) - 5 < (nn : Int) := by omega
            have HRD := Lib.hid (sofar_bad HS.out.1 (by have := HM.out.1; omega) (by rw [← HX.out.1]; decide) (by rw [← HX.out.2]; have := HM.out.1; omega))
            go_wp2_with (first
              | (go_at_call 32; go_must (refine (room_any _ _ (by omega) (by omega)).mono ?_; rintro y w3 ⟨rfl, rfl⟩; rw [R.out]))
              | (go_at_call 36; go_must (refine (CL.out _).mono ?_; rintro y w3 ⟨rfl, rfl⟩)))
            go_ret3
            exact ParseP.no HRD.out HO.out.2
        · have hx1n : ¬ (x.toNat : Int) = 1 := fun e => hx1 (UInt8.toNat_inj.1 (by show x.toNat = 1; omega))
          have HRD := Lib.hid (sofar_bad HS.out.1 (by have := HM.out.1; omega) (by rw [← HX.out.1]; exact hz) (fun e => hx1 (HX.out.1.trans e.1)))
          go_wp2_with (first
            | (go_at_call 32; go_must (refine (room_any _ _ (by omega) (by omega)).mono ?_; rintro y w3 ⟨rfl, rfl⟩; rw [R.out]))
            | (go_at_call 36; go_must (refine (CL.out _).mono ?_; rintro y w3 ⟨rfl, rfl⟩)))
          go_ret3
          exact ParseP.no HRD.out HO.out.2

end Go.Proofs.YthcikgbnenfjpaaDoor.pk
