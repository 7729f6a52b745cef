/-
  The law SealNear's own walk: of anything sealed, whatever becomes of up to four bytes that follow one another, it is refused, if any of them is another one.
-/
import Derived.Test.YtgkjcdhkiclheaaDoorMakes
import Derived.Test.YtgkjcdhkiclheaaDoorNearP
import Derived.Laws.OwnMore
import Derived.BigRegion
namespace Go.Proofs.YtgkjcdhkiclheaaDoor.pk
open Go Go.RowKit
set_option maxRecDepth 100000

theorem byteCells_set (l : List UInt8) (k : Nat) (c : UInt8) : (Lib.byteCells l).set k (.int .u8 (c.toNat : Int)) = Lib.byteCells (l.set k c) := by
  simp [Lib.byteCells, List.map_set]
theorem u8_ne (c : UInt8) : (c != 0) = (c.toNat != 0) := by
  by_cases h : c = 0
  · rw [h]; rfl
  · rw [bne_iff_ne.2 h, bne_iff_ne.2 (fun e => h (UInt8.toNat_inj.1 (by rw [e]; rfl)))]
theorem sealE_near (kind : UInt8) (b : List UInt8) (hk : kind ≠ 0) (hl : b.length ≤ 5000) : sealE kind b = 0 := by unfold sealE; rw [if_neg hk, if_neg (by omega)]
theorem sealB_len (kind : UInt8) (b : List UInt8) (h : sealE kind b = 0) : (sealB kind b).length = b.length + 5 := by
  unfold sealB; rw [if_pos h, List.length_append, tail4_len, List.length_cons]

/-- An own row that is not empty, written out. -/
theorem row_form {w : World} {base n : Nat} {v : Value} {xs : List Value} (h : w.ownsRow base 5 1 v n xs) (hn : 0 < n) :
    ∃ g cap, v = .slice (some ⟨g, 0, none⟩) n cap ∧ base ≤ g ∧ g < w.heap.size ∧ n ≤ cap ∧ cap ≤ 9223372036854775807 := by
  rcases h.2 with ⟨_, h0⟩ | ⟨g, cap, cur, rfl, hb, hg, hnc, hcm, _⟩
  · omega
  · refine ⟨g, cap, rfl, hb, (h.lt g rfl).2, hnc, by simp only [maxLen] at hcm; omega⟩

set_option maxHeartbeats 2000000 in
theorem near_true (C : Con) (A : Option Addr) (n c : Nat) (b : List UInt8) (at_ : Int) (b0 b1 b2 b3 kind : UInt8) (w : World) (hs : Std w) (h : Sl w w.heap.size (.slice A n c) b) :
    Calls Tryd.prog 5 #[.slice A n c, .int .i64 at_, .agg #[.int .u8 (b0.toNat : Int), .int .u8 (b1.toNat : Int), .int .u8 (b2.toNat : Int), .int .u8 (b3.toNat : Int), .int .u8 (kind.toNat : Int)]] w
      fun x w' => x = .returned (.bool true) ∧ Below w.heap.size w w' := by
  have hG := hs.size
  have HS := Lib.hid hs
  have H := Lib.hid h
  obtain ⟨hn, _, _⟩ := h.len
  clear h hs
  obtain ⟨W0, hW0⟩ : ∃ W0, W0 = w.alloc (.cells #[.int .u8 (b0.toNat : Int), .int .u8 (b1.toNat : Int), .int .u8 (b2.toNat : Int), .int .u8 (b3.toNat : Int), .int .u8 (kind.toNat : Int)] 37) := ⟨_, rfl⟩
  have hb0 : Below w.heap.size w W0 := by rw [hW0]; exact (Below.refl _ _).alloc (Nat.le_refl _) _
  have hX : w.heap.size < W0.heap.size := by rw [hW0]; simp
  have q4 : W0.cell? ⟨w.heap.size, 4, none⟩ = some (.int .u8 (kind.toNat : Int)) := by rw [hW0]; simp
  have HQ : Hid (∀ W, Below W0.heap.size W0 W → ∀ j, j < 4 → W.cell? ⟨w.heap.size, j, none⟩ = some (.int .u8 (([b0, b1, b2, b3].getD j 0).toNat : Int))) := Lib.hid (fun W hW j hj => by
    rw [hW.cell (p := ⟨w.heap.size, j, none⟩) hX, hW0]
    match j, hj with
    | 0, _ => simp
    | 1, _ => simp
    | 2, _ => simp
    | 3, _ => simp)
  have HB0 := Lib.hid hb0
  go_enter Tryd.func5, Tryd.ntmps5
  go_upto_region 1 with fail
  rw [← hW0]
  clear hW0 hb0
  generalize [b0, b1, b2, b3] = bys at HQ
  by_cases hk0 : kind = 0
  · have i1 : (kind.toNat : Int) = 0 := by rw [hk0]; rfl
    rw [i1] at q4
    clear i1 hk0
    go_wp2_with (go_at_call 6; go_must (refine (sure_any C _).mono ?_; rintro y w1 ⟨rfl, hb1⟩; have HB1 := Lib.hid (HB0.out.trans (hb1.mono HB0.out.size)); clear hb1))
    go_ret
    exact ⟨rfl, HB1.out⟩
  · have hk1 : ¬ kind.toNat = 0 := fun e => hk0 (UInt8.toNat_inj.1 (by rw [e]; rfl))
    have hkI : ¬ (kind.toNat : Int) = 0 := by omega
    have hkB : ((kind.toNat : Int) == 0) = false := by rw [beq_eq_false_iff_ne]; exact hkI
    by_cases hl : 5000 < n
    · have i1 : (5000 : Int) < (n : Int) := by omega
      clear hk0 hk1 hl hn
      generalize (kind.toNat : Int) = kI at *
      go_wp2_with (go_at_call 6; go_must (refine (sure_any C _).mono ?_; rintro y w1 ⟨rfl, hb1⟩; have HB1 := Lib.hid (HB0.out.trans (hb1.mono HB0.out.size)); clear hb1))
      go_ret
      exact ⟨rfl, HB1.out⟩
    · have i1 : ¬ (5000 : Int) < (n : Int) := by omega
      have hE := sealE_near kind b hk0 (by omega)
      have hlen := sealB_len kind b hE
      have h1 := C.cSeal kind A n c b W0 w.heap.size HB0.out.size (H.out.below HB0.out)
      rw [hE, er_zero] at h1
      have HT : Hid (∀ i j, j ≤ 4 → i + j ≤ (sealB kind b).length → some4 bys j = true → openE (win (sealB kind b) i bys j) = 11) := Lib.hid fun i j hj hij h => near_told kind b hE i bys j hj hij h
      have HO := Lib.hid (seal_open kind b hE).1
      have HLB := Lib.hid (show b.length ≤ 5000 by omega)
      generalize sealB kind b = S at h1 HT HO hlen
      have H1 := Lib.hid h1
      have HLEN := Lib.hid hlen
      clear h1 hE hlen hk0 hk1 hl hn
      generalize (kind.toNat : Int) = kI at *
      go_upto_region 5 with (go_at_call 7; go_must (refine H1.out.mono ?_; rintro y w1 ⟨v1, rfl, ho1, hb1⟩; have HOW := Lib.hid ho1; have HB1 := Lib.hid hb1; clear ho1 hb1))
      obtain ⟨N, hN⟩ : ∃ N, N = S.length := ⟨_, rfl⟩
      have ho := HOW.out
      rw [← hN] at ho
      have HNL := Lib.hid hN
      have hN5 : 5 ≤ N := by have := HLEN.out; omega
      obtain ⟨g, cap, rfl, hg0, hgl, hcap⟩ := row_form ho (by omega)
      have HO1 := Lib.hid ho
      have HCAP := Lib.hid hcap
      have hwr : IntKind.u64.wrap at_ = at_ % 18446744073709551616 := IntKind.wrap_u64 at_
      have ha0 : 0 ≤ at_ % 18446744073709551616 := by omega
      generalize at_ % 18446744073709551616 = a at hwr ha0
      have hm0 : 0 ≤ a % (N : Int) := Int.emod_nonneg _ (by omega)
      have hm1 : a % (N : Int) < (N : Int) := Int.emod_lt_of_pos _ (by omega)
      have hmt : a.tmod (N : Int) = a % (N : Int) := Int.tmod_eq_emod_of_nonneg ha0
      obtain ⟨I, hI⟩ : ∃ I : Nat, a % (N : Int) = (I : Int) := ⟨(a % (N : Int)).toNat, by omega⟩
      rw [hI] at hm0 hm1 hmt
      have hIN : I < N := by omega
      have hNm : N ≤ 5005 := by have := HLEN.out; have := HLB.out; omega
      have hwu : IntKind.u64.wrap (I : Int) = (I : Int) := by rw [IntKind.wrap_u64]; omega
      have hwi : IntKind.i64.wrap (I : Int) = (I : Int) := IntWalk.i64_in _ (by omega)
      have hwn : IntKind.u64.wrap (N : Int) = (N : Int) := by rw [IntKind.wrap_u64]; omega
      have i5 : ¬ (N : Int) < 5 := by omega
      have hnz : ((N : Int) == 0) = false := by simp; omega
      have hnz' : ¬ (N : Int) = 0 := by omega
      clear ho hN HOW hI hcap
      go_upto_block 0 with fail
      have hW0w1 := HB1.out.size
      go_cut [11, 12] (fun oo _ W => ∃ j : Nat, j ≤ 4 ∧ I + j ≤ N ∧ oo = .bool (some4 bys j) ∧ W.ownsRow W0.heap.size 5 1 (.slice (some ⟨g, 0, none⟩) N cap) N (Lib.byteCells (win S I bys j)) ∧ Below W0.heap.size W0 W)
      case first =>
        go_wp2_with fail
        go_loopw [11, 12] (fun oo kk wr => ∃ j : Nat, j ≤ 4 ∧ I + j ≤ N ∧ oo = .bool (some4 bys j) ∧ kk = .int .i64 (j : Int) ∧ wr.ownsRow W0.heap.size 5 1 (.slice (some ⟨g, 0, none⟩) N cap) N (Lib.byteCells (win S I bys j)) ∧ Below W0.heap.size W0 wr) (fun _ kk _ => 4 - (intOf kk).toNat)
        case atStart => exact ⟨0, by omega, by omega, rfl, rfl, by rw [win_none]; exact HO1.out, HB1.out⟩
        case round =>
          obtain ⟨j, hj, hIj, rfl, rfl, hor, hbr⟩ := hrel
          have HOR := Lib.hid hor
          have HBR := Lib.hid hbr
          obtain ⟨K, hK⟩ : ∃ K, K = I + j := ⟨_, rfl⟩
          have iK : (I : Int) + (j : Int) = (K : Int) := by omega
          have iW : IntKind.i64.wrap (K : Int) = (K : Int) := IntWalk.i64_in _ (by omega)
          by_cases hj4 : j < 4
          · have k1 : (j : Int) < 4 := by omega
            by_cases hKN : K < N
            · have k2 : (K : Int) < (N : Int) := by omega
              have k3 : (j : Int) < 5 := by omega
              have hKS : I + j < S.length := by have := HNL.out; omega
              have cx : wr.cell? ⟨g, K, none⟩ = some (.int .u8 ((S[I + j].toNat : Nat) : Int)) := by
                rw [HOR.out.cellAt K (by omega), byteCells_get, hK, List.getElem?_eq_getElem (by rw [win_len]; exact hKS), win_at S I bys j hKS]
                rfl
              have cf := HOR.out.frozenAt K
              have cb := HQ.out wr HBR.out j hj4
              have hst := win_step S I bys j hKS
              have hset : (Lib.byteCells (win S I bys j)).set K (.int .u8 (((S[I + j].toNat ^^^ (bys.getD j 0).toNat : Nat)) : Int)) = Lib.byteCells (win S I bys (j + 1)) := by
                rw [← UInt8.toNat_xor, byteCells_set, hK, hst]
              have hxor : bits .xor .u8 ((S[I + j].toNat : Nat) : Int) (((bys.getD j 0).toNat : Nat) : Int) = (((S[I + j].toNat ^^^ (bys.getD j 0).toNat : Nat)) : Int) := u8_xor_nat _ _ (S[I + j].toNat_lt) ((bys.getD j 0).toNat_lt)
              have hstored := HOR.out.stored K (.int .u8 (((S[I + j].toNat ^^^ (bys.getD j 0).toNat : Nat)) : Int))
              rw [hset] at hstored
              have HST := Lib.hid hstored
              have hs4 : some4 bys (j + 1) = (some4 bys j || (bys.getD j 0).toNat != 0) := by
                show (some4 bys j || bys.getD j 0 != 0) = _
                rw [u8_ne]
              have hyl := (bys.getD j 0).toNat_lt
              clear hst hset hstored hor hbr
              generalize S[I + j].toNat ^^^ (bys.getD j 0).toNat = z at hxor HST
              generalize S[I + j].toNat = x at cx hxor
              generalize (bys.getD j 0).toNat = y at cb hxor hs4 hyl
              have HS4 := Lib.hid hs4
              have HKK := Lib.hid hK
              clear hs4 hK
              generalize some4 bys j = o at HS4
              rcases o with _ | _
              · by_cases hy : y = 0
                · have hyI : (y : Int) = 0 := by omega
                  have hyB : ((y : Int) == 0) = true := by rw [beq_iff_eq]; exact hyI
                  have HV : Hid (some4 bys (j + 1) = false) := Lib.hid (by rw [HS4.out, hy]; rfl)
                  subst hy
                  have hxor0 : bits .xor .u8 (x : Int) 0 = (z : Int) := hxor
                  go_upto_region 13 with fail
                  go_region
                  all_goals go_wp2_with fail
                  go_roundw
                  case rel => exact ⟨j + 1, by omega, by have := HKK.out; omega, by rw [HV.out], by go_num, HST.out.1.drew, ((HBR.out.grown HST.out.2 HBR.out.size (fun k hk => by injection hk with hk; omega)).drew)⟩
                  case measure => simp [intOf]; omega
                · have hyI : ¬ (y : Int) = 0 := by omega
                  have hyB : ((y : Int) == 0) = false := by rw [beq_eq_false_iff_ne]; exact hyI
                  have hyN : ((y : Int) != 0) = true := by rw [bne_iff_ne]; exact hyI
                  have HV : Hid (some4 bys (j + 1) = true) := Lib.hid (by rw [HS4.out, bne_iff_ne.2 hy]; rfl)
                  have HYN := Lib.hid hyN
                  clear hy
                  go_upto_region 13 with fail
                  go_region
                  all_goals go_wp2_with fail
                  go_roundw
                  case rel => exact ⟨j + 1, by omega, by have := HKK.out; omega, by rw [HV.out], by go_num, HST.out.1.drew, ((HBR.out.grown HST.out.2 HBR.out.size (fun k hk => by injection hk with hk; omega)).drew)⟩
                  case measure => simp [intOf]; omega
              · have HV : Hid (some4 bys (j + 1) = true) := Lib.hid (by rw [HS4.out]; rfl)
                go_upto_region 13 with fail
                go_region
                all_goals go_wp2_with fail
                go_roundw
                case rel => exact ⟨j + 1, by omega, by have := HKK.out; omega, by rw [HV.out], by go_num, HST.out.1.drew, ((HBR.out.grown HST.out.2 HBR.out.size (fun k hk => by injection hk with hk; omega)).drew)⟩
                case measure => simp [intOf]; omega
            · have k2 : ¬ (K : Int) < (N : Int) := by omega
              generalize hso : some4 bys j = o
              have HSO := Lib.hid hso
              clear hK hso hor hbr
              go_wp2_with fail
              go_meet
              exact ⟨j, hj, hIj, by rw [HSO.out], HOR.out, HBR.out⟩
          · have k1 : ¬ (j : Int) < 4 := by omega
            generalize hso : some4 bys j = o
            have HSO := Lib.hid hso
            clear hK hso hor hbr
            go_wp2_with fail
            go_meet
            exact ⟨j, hj, hIj, by rw [HSO.out], HOR.out, HBR.out⟩
      case rest =>
        obtain ⟨j, hj, hIj, rfl, hor, hbr⟩ := hcut
        obtain ⟨A2, c2, hv2, hs2⟩ := own_sl hor (by rw [win_len]; exact HNL.out)
        injection hv2 with e1 e2 e3
        subst e1; subst e3
        have HT2 := Lib.hid hs2
        have HBR := Lib.hid hbr
        have hopen := C.cOpen _ _ _ _ _ _ (Nat.le_refl _) hs2
        have HBw := Lib.hid (HB0.out.trans (hbr.mono HB0.out.size))
        have HSw := Lib.hid (HS.out.below hG HBw.out)
        obtain ⟨o, ho⟩ : ∃ o, o = some4 bys j := ⟨_, rfl⟩
        rw [← ho]
        rcases o with _ | _
        · have hw : win S I bys j = S := win_zero S I bys j (some4_false bys j ho.symm)
          rw [hw, HO.out, er_zero] at hopen
          have HOP := Lib.hid hopen
          clear hopen hw ho hor hbr hs2
          go_wp2_with (first
            | (go_at_call 10; go_must (refine HOP.out.mono ?_; rintro y w4 ⟨v4, rfl, _, hb4⟩; have HB4 := Lib.hid (HBw.out.trans (hb4.mono HBw.out.size)); clear hb4))
            | (go_at_call 6; go_must (refine (sure_any C _).mono ?_; rintro y w5 ⟨rfl, hb5⟩; have HB5 := Lib.hid (HB4.out.trans (hb5.mono HB4.out.size)); clear hb5)))
          go_ret
          exact ⟨rfl, HB5.out⟩
        · rw [HT.out I j hj (by have := HNL.out; omega) ho.symm] at hopen
          have HOP := Lib.hid hopen
          clear hopen ho hor hbr hs2
          have he11 : er 11 = .iface 42 (.int .i64 11) := rfl
          rw [he11] at HOP
          clear he11
          go_wp2_with (first
            | (go_at_call 10; go_must (refine HOP.out.mono ?_; rintro y w4 ⟨v4, rfl, _, hb4⟩; have HB4 := Lib.hid (HBw.out.trans (hb4.mono HBw.out.size)); clear hb4))
            | (go_at_call 9; go_must (refine (num_some 11 _ (HS.out.below hG HB4.out)).mono ?_; rintro y w3 ⟨rfl, hb3⟩; have HB3 := Lib.hid (HB4.out.trans (hb3.mono HB4.out.size)); clear hb3))
            | (go_at_call 6; go_must (refine (sure_any C _).mono ?_; rintro y w5 ⟨rfl, hb5⟩; have HB5 := Lib.hid (HB3.out.trans (hb5.mono HB3.out.size)); clear hb5)))
          go_ret
          exact ⟨rfl, HB5.out⟩

end Go.Proofs.YtgkjcdhkiclheaaDoor.pk
