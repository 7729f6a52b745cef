/-
  The law DiskPower's own walk: the power goes within the step that comes behind as many as were told.
-/
import Derived.Test.YtlhagbcomnjnoaaDoorSureD
import Derived.Test.YtlhagbcomnjnoaaDoorNum
import Derived.Test.YtlhagbcomnjnoaaDoorConE
namespace Go.Proofs.YtlhagbcomnjnoaaDoor.pk
open Go Go.RowKit
set_option maxRecDepth 100000

theorem num_er (k : Nat) (w : World) (hs : Std w) :
    Calls Tryd.prog 8 #[er k] w fun x w' => x = .returned (.int .i64 (k : Int)) ∧ Below w.heap.size w w' := num_any k w hs

/-- The disk behind i steps, armed for n. -/
def PowD (n i : Nat) (d : Dk) : Prop := d.B.length = 9 ∧ d.L.length ≤ i ∧ d.off = decide (n < i) ∧ (i ≤ n → d.armed = (n : Int) - i) ∧ d.Ok

theorem pow_start (n : Nat) : PowD n 0 (armD (newD 9) n) := by
  refine ⟨?_, ?_, ?_, ?_, armD_ok (newD_ok 9) _⟩
  · rw [(armD_len _ _).1]; rfl
  · rw [(armD_len _ _).2]; exact Nat.le_refl _
  · unfold armD; rw [if_neg (by omega)]; simp [newD]
  · intro _; unfold armD; rw [if_neg (by omega)]; simp
theorem pow_step {n i : Nat} {d : Dk} (ha : d.armed = (n : Int) - i) (hi : i ≤ n) (hd : d.off = false) : (stepD d).off = decide (n < i + 1) ∧ (i + 1 ≤ n → (stepD d).armed = (n : Int) - (i + 1 : Nat)) ∧ stepE d = (if i < n then 0 else 13) := by
  unfold stepD stepE
  by_cases hz : d.armed = 0
  · have : i = n := by omega
    subst this
    rw [if_pos hz, if_pos hz, if_neg (by omega)]
    refine ⟨by simp, fun hx => by omega, rfl⟩
  · have : i < n := by omega
    rw [if_neg hz, if_neg hz, if_pos this, if_pos (by omega)]
    refine ⟨by simp [hd]; omega, fun _ => by simp only; omega, rfl⟩
theorem pow_put {n i : Nat} {d : Dk} (h : PowD n i d) (x : List UInt8) (hx : x.length ≤ 9) : PowD n (i + 1) (putD d 0 x) ∧ putE d 0 x = if i < n then 0 else 13 := by
  have hb : badE d 0 x.length = if i ≤ n then 0 else 13 := by
    unfold badE
    rw [if_pos (by have := h.1; omega), h.2.2.1]
    by_cases hi : i ≤ n
    · rw [if_neg (by simp; omega), if_pos hi]
    · rw [if_pos (by simp; omega), if_neg hi]
  have hO := putD_ok h.2.2.2.2 0 x
  have hl := (putD_len d 0 x).trans h.1
  have hL := Nat.le_trans (putD_lenL d 0 x) (Nat.succ_le_succ h.2.1)
  by_cases hi : i ≤ n
  · rw [if_pos hi] at hb
    have hoff : d.off = false := by rw [h.2.2.1]; simp; omega
    have hs := pow_step (n := n) (i := i) (d := { d with L := d.L ++ [((0 : Int).toNat, x)] }) (h.2.2.2.1 hi) hi hoff
    have hp : putD d 0 x = stepD { d with L := d.L ++ [((0 : Int).toNat, x)] } := by unfold putD; rw [if_pos hb]
    refine ⟨⟨hl, hL, by rw [hp]; exact hs.1, fun hx => by rw [hp]; exact hs.2.1 hx, hO⟩, ?_⟩
    unfold putE
    rw [if_pos hb]
    exact hs.2.2
  · rw [if_neg hi] at hb
    have hp : putD d 0 x = d := by unfold putD; rw [if_neg (by omega)]
    refine ⟨⟨hl, hL, by rw [hp, h.2.2.1]; simp; omega, fun hx => by omega, hO⟩, ?_⟩
    unfold putE
    rw [if_neg (by omega), hb, if_neg (by omega)]
theorem pow_sync {n i : Nat} {d : Dk} (h : PowD n i d) : PowD n (i + 1) (syncD d) ∧ syncE d = if i < n then 0 else 13 := by
  have hO := syncD_ok h.2.2.2.2
  have hl := (syncD_len h.2.2.2.2).trans h.1
  have hL := Nat.le_succ_of_le (Nat.le_trans (syncD_lenL d) h.2.1)
  by_cases hi : i ≤ n
  · have hoff : d.off = false := by rw [h.2.2.1]; simp; omega
    have hs := pow_step (n := n) (i := i) (d := d) (h.2.2.2.1 hi) hi hoff
    have hp : (syncD d).off = (stepD d).off ∧ (syncD d).armed = (stepD d).armed := by
      unfold syncD
      rw [if_neg (by simp [hoff])]
      by_cases he : stepE d = 0
      · rw [if_pos he]; exact ⟨rfl, rfl⟩
      · rw [if_neg he]; exact ⟨rfl, rfl⟩
    refine ⟨⟨hl, hL, by rw [hp.1]; exact hs.1, fun hx => by rw [hp.2]; exact hs.2.1 hx, hO⟩, ?_⟩
    unfold syncE
    rw [if_neg (by simp [hoff])]
    exact hs.2.2
  · have hoff : d.off = true := by rw [h.2.2.1]; simp; omega
    have hp : syncD d = d := by unfold syncD; rw [if_pos hoff]
    refine ⟨⟨hl, hL, by rw [hp, h.2.2.1]; simp; omega, fun hx => by omega, hO⟩, ?_⟩
    unfold syncE
    rw [if_pos hoff, if_neg (by omega)]
theorem pow_end (d : Dk) (hl : d.B.length = 9) (ho : d.Ok) : putE (startD d []) 0 [] = 0 ∧ (startD d []).off = false ∧ (startD d []).L.length = 0 ∧ syncE (putD (startD d []) 0 []) = 0 ∧ (putD (startD d []) 0 []).L.length < 100000 := by
  have h9 : (startD d []).B.length = 9 := (startD_len ho []).trans hl
  have hb : badE (startD d []) 0 ([] : List UInt8).length = 0 := by
    unfold badE
    rw [if_pos ⟨by omega, by simp, by omega, by simp⟩]
    rfl
  have hp : putD (startD d []) 0 [] = stepD { startD d [] with L := (startD d []).L ++ [((0 : Int).toNat, [])] } := by unfold putD; rw [if_pos hb]
  refine ⟨?_, rfl, rfl, ?_, ?_⟩
  · unfold putE; rw [if_pos hb]; rfl
  · rw [hp]; rfl
  · rw [hp]; rw [(stepD_L _).1]; simp [startD]

set_option maxHeartbeats 2000000 in
theorem power_true {Q : ConD → Prop} (C : ConD) (B : ConB Q C) (E : ConE C) (steps : Int) (A : Option Addr) (m c : Nat) (ks : List Bool) (w : World) (hs : Std w) (h : BoolsT w (fun k => k < w.heap.size) (.slice A m c) ks) :
    Calls Tryd.prog 5 #[.int .i64 steps, .slice A m c] w fun x w' => x = .returned (.bool true) ∧ Below w.heap.size w w' := by
  have hG := hs.size
  have HS := Lib.hid hs
  have H := Lib.hid h
  have hwr : IntKind.u64.wrap steps = steps % 18446744073709551616 := IntKind.wrap_u64 steps
  have ha0 : 0 ≤ steps % 18446744073709551616 := by omega
  generalize steps % 18446744073709551616 = a at hwr ha0
  have hmt : a.tmod 20 = a % 20 := Int.tmod_eq_emod_of_nonneg ha0
  obtain ⟨N, hN⟩ : ∃ N : Nat, a % 20 = (N : Int) := ⟨(a % 20).toNat, by omega⟩
  rw [hN] at hmt
  have hN20 : (N : Int) < 20 := by omega
  have hwu : IntKind.u64.wrap (N : Int) = (N : Int) := by rw [IntKind.wrap_u64]; omega
  have hwi : IntKind.i64.wrap (N : Int) = (N : Int) := IntWalk.i64_in _ (by omega)
  have kc := fun (w : World) (C : Array Value) (n c : Nat) => Lib.run_convert_bytes_const (P := Tryd.prog) w 24 5 C n c Tryd.underlying24 Tryd.underlying5
  obtain ⟨A', c', hv, hmc, hcm⟩ := h.form
  injection hv with e1 e2 e3
  subst e1; subst e3
  have hm : Hid (m = ks.length) := Lib.hid e2
  have hmB : (m : Int) ≤ 9223372036854775807 := by omega
  clear h hs hN ha0 e2 hmc hcm
  go_enter Tryd.func5, Tryd.ntmps5
  go_upto_region 2 with (go_at_call 17; go_must (refine (live_new B w 9 (by omega) (by omega) 9 rfl).mono ?_; rintro y w1 ⟨p, S, rfl, h1⟩; have L1 := Lib.hid h1; clear h1))
  go_upto_region 5 with (go_at_call 11; go_must (refine (live_arm E L1.out (N : Int) (by unfold inI; omega)).mono ?_; rintro y w2 ⟨S2, rfl, h2, _⟩; rw [show armE (N : Int) = 0 from if_neg (by omega), er_zero]; have L2 := Lib.hid h2; clear h2))
  go_wp2_with fail
  go_loopw [8] (fun ii wr => ∃ (i : Nat) (S3 : Nat → Prop) (d : Dk), i ≤ 30 ∧ i ≤ m ∧ ii = .int .i64 (i : Int) ∧ Live C w wr S3 p d ∧ PowD N i d) (fun ii _ => 30 - (intOf ii).toNat)
  case atStart => exact ⟨0, S2, _, by omega, by omega, rfl, L2.out, pow_start N⟩
  case round =>
    obtain ⟨i, S3, d, hi, him, rfl, hlr, hpd⟩ := hrel
    have LR := Lib.hid hlr
    have HP := Lib.hid hpd
    clear hlr hpd
    by_cases hlt : i < m ∧ i < 30
    · obtain ⟨hlt1, hlt2⟩ := hlt
      obtain ⟨-, -, -, b, off, rfl, hb, hcell⟩ := H.out.at_ (by have := hm.out; omega)
      have hil : i < ks.length := by have := hm.out; omega
      have hq := (LR.out.below.cell (p := ⟨b, off + i, none⟩) hb).trans (hcell i (.bool ks[i]) (by rw [List.getElem?_map, List.getElem?_eq_getElem hil]; rfl))
      have i1 : (i : Int) < (m : Int) := by omega
      have i2 : (i : Int) < 30 := by omega
      clear hcell
      cases hk : ks[i]
      · rw [hk] at hq
        by_cases hN : i < N
        · have i5 : (i : Int) < (N : Int) := by omega
          have i6 : ¬ (N : Int) ≤ (i : Int) := by omega
          clear hN
          go_wp2_with fail
          have hp := pow_sync HP.out
          have c2 := live_sync LR.out
          rw [show syncE d = 0 from hp.2.trans (if_pos (by omega))] at c2
          have HP3 := Lib.hid hp.1
          clear hp
          refine c2.mono ?_
          rintro y w3 ⟨S3, rfl, h3, _⟩
          have L3 := Lib.hid h3
          clear h3 c2
          rw [er_zero]
          have hoff : (syncD d).off = false := by rw [HP3.out.2.2.1]; simp; omega
          have HOFF := Lib.hid hoff
          clear hoff
          go_wp2_with (go_at_call 14; go_must (refine (live_down E L3.out).mono ?_; rw [HOFF.out]; rintro y w4 ⟨rfl, h4, _⟩; have L4 := Lib.hid h4; clear h4))
          go_roundw
          case rel => exact ⟨i + 1, _, _, by omega, by omega, by go_num, L4.out, HP3.out⟩
          case measure => simp [intOf]; omega
        · have i5 : ¬ (i : Int) < (N : Int) := by omega
          have i6 : (N : Int) ≤ (i : Int) := by omega
          clear hN
          go_wp2_with fail
          have hp := pow_sync HP.out
          have c2 := live_sync LR.out
          rw [show syncE d = 13 from hp.2.trans (if_neg (by omega))] at c2
          have HP3 := Lib.hid hp.1
          clear hp
          refine c2.mono ?_
          rintro y w3 ⟨S3, rfl, h3, _⟩
          have L3 := Lib.hid h3
          clear h3 c2
          rw [er_ne (by omega)]
          have hoff : (syncD d).off = true := by rw [HP3.out.2.2.1]; simp; omega
          have HOFF := Lib.hid hoff
          clear hoff
          go_wp2_with (first | (go_at_call 8; refine (num_er 13 _ (HS.out.below hG L4.out.below)).mono ?_; rintro y w5 ⟨rfl, hb5⟩; have L5 := Lib.hid (L4.out.more hb5); clear hb5) | (go_at_call 14; go_must (refine (live_down E L3.out).mono ?_; rw [HOFF.out]; rintro y w4 ⟨rfl, h4, _⟩; have L4 := Lib.hid h4; clear h4)))
          go_roundw
          case rel => exact ⟨i + 1, _, _, by omega, by omega, by go_num, L5.out, HP3.out⟩
          case measure => simp [intOf]; omega
      · rw [hk] at hq
        by_cases hN : i < N
        · have i5 : (i : Int) < (N : Int) := by omega
          have i6 : ¬ (N : Int) ≤ (i : Int) := by omega
          clear hN
          go_wp2_with fail
          have hl2 := LR.out.lit 5 [120] (by simp) (1, 2)
          have hp := pow_put HP.out [120] (by simp)
          have c2 := live_write (LR.out.alloc (.cells #[.int .u8 120] 5 (1, 2))) 0 _ _ _ _ (by unfold inI; omega) (by have := HP.out.2.1; omega) hl2
          rw [show putE d 0 [120] = 0 from hp.2.trans (if_pos (by omega))] at c2
          have HP3 := Lib.hid hp.1
          clear hp
          refine c2.mono ?_
          rintro y w3 ⟨S3, rfl, h3, _⟩
          have L3 := Lib.hid h3
          clear h3 c2 hl2
          rw [er_zero]
          have hoff : (putD d 0 [120]).off = false := by rw [HP3.out.2.2.1]; simp; omega
          have HOFF := Lib.hid hoff
          clear hoff
          go_wp2_with (go_at_call 14; go_must (refine (live_down E L3.out).mono ?_; rw [HOFF.out]; rintro y w4 ⟨rfl, h4, _⟩; have L4 := Lib.hid h4; clear h4))
          go_roundw
          case rel => exact ⟨i + 1, _, _, by omega, by omega, by go_num, L4.out, HP3.out⟩
          case measure => simp [intOf]; omega
        · have i5 : ¬ (i : Int) < (N : Int) := by omega
          have i6 : (N : Int) ≤ (i : Int) := by omega
          clear hN
          go_wp2_with fail
          have hl2 := LR.out.lit 5 [120] (by simp) (1, 2)
          have hp := pow_put HP.out [120] (by simp)
          have c2 := live_write (LR.out.alloc (.cells #[.int .u8 120] 5 (1, 2))) 0 _ _ _ _ (by unfold inI; omega) (by have := HP.out.2.1; omega) hl2
          rw [show putE d 0 [120] = 13 from hp.2.trans (if_neg (by omega))] at c2
          have HP3 := Lib.hid hp.1
          clear hp
          refine c2.mono ?_
          rintro y w3 ⟨S3, rfl, h3, _⟩
          have L3 := Lib.hid h3
          clear h3 c2 hl2
          rw [er_ne (by omega)]
          have hoff : (putD d 0 [120]).off = true := by rw [HP3.out.2.2.1]; simp; omega
          have HOFF := Lib.hid hoff
          clear hoff
          go_wp2_with (first | (go_at_call 8; refine (num_er 13 _ (HS.out.below hG L4.out.below)).mono ?_; rintro y w5 ⟨rfl, hb5⟩; have L5 := Lib.hid (L4.out.more hb5); clear hb5) | (go_at_call 14; go_must (refine (live_down E L3.out).mono ?_; rw [HOFF.out]; rintro y w4 ⟨rfl, h4, _⟩; have L4 := Lib.hid h4; clear h4)))
          go_roundw
          case rel => exact ⟨i + 1, _, _, by omega, by omega, by go_num, L5.out, HP3.out⟩
          case measure => simp [intOf]; omega
    · have hge : ¬ ((i : Int) < (m : Int)) ∨ ((i : Int) < (m : Int) ∧ ¬ (i : Int) < 30) := by omega
      have hend := pow_end d HP.out.1 HP.out.2.2.2.2
      have HE := Lib.hid hend
      have hlL : d.L.length < 100000 := by have := HP.out.2.1; omega
      clear hlt hend
      rcases hge with hge | ⟨hge1, hge2⟩
      all_goals
        go_wp2_with fail
        refine (live_start LR.out none 0 0 [] hlL (RowT.nil_ _ _ 1) (by simp)).mono ?_
        rintro y w3 ⟨S4, rfl, h3, _⟩
        have L3 := Lib.hid h3
        clear h3
        go_wp2_with fail
        refine (live_down E L3.out).mono ?_
        rw [HE.out.2.1]
        rintro y w4 ⟨rfl, h4, _⟩
        have L4 := Lib.hid h4
        clear h4
        go_wp2_with fail
        refine (live_waits L4.out).mono ?_
        rw [HE.out.2.2.1]
        rintro y w5 ⟨rfl, h5, _⟩
        have L5 := Lib.hid h5
        clear h5
        go_wp2_with fail
        refine (live_write L5.out 0 none 0 0 [] (by unfold inI; omega) (by rw [HE.out.2.2.1]; omega) (SlT.nil_ _ _)).mono ?_
        rw [HE.out.1]
        rintro y w6 ⟨S6, rfl, h6, _⟩
        have L6 := Lib.hid h6
        clear h6
        rw [er_zero]
        go_wp2_with fail
        refine (live_sync L6.out).mono ?_
        rw [HE.out.2.2.2.1]
        rintro y w7 ⟨S7, rfl, h7, _⟩
        have L7 := Lib.hid h7
        clear h7
        rw [er_zero]
        go_wp2_with (go_at_call 16; go_must (refine (sure_any B _).mono ?_; rintro y w8 ⟨rfl, hb8⟩; have HB8 := Lib.hid (L7.out.below.trans (hb8.mono L7.out.size)); clear hb8))
        go_ret
        exact ⟨rfl, HB8.out⟩

end Go.Proofs.YtlhagbcomnjnoaaDoor.pk
