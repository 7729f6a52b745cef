/-
  The law DiskRuns' own walk: whatever is done to a disk, the answers are the document's.
-/
import Derived.Test.YtlhagbcomnjnoaaDoorTwin
import Derived.Test.YtlhagbcomnjnoaaDoorConN
import Derived.Test.YtlhagbcomnjnoaaDoorSureD
namespace Go.Proofs.YtlhagbcomnjnoaaDoor.pk
open Go Go.RowKit
set_option maxRecDepth 100000

set_option maxHeartbeats 8000000 in
theorem runs_true {Q : ConD → Prop} (C : ConD) (B : ConB Q C) (E : ConE C) (N : ConN) (size : Int) (A : Option Addr) (m c : Nat) (la : List Ac) (w : World) (hs : Std w) (h : ActsT w (fun k => k < w.heap.size) (.slice A m c) la) (hsz : inI size) :
    Calls Tryd.prog 3 #[.int .i64 size, .slice A m c] w fun x w' => x = .returned (.bool true) ∧ Below w.heap.size w w' := by
  obtain ⟨A1, c1, hv, hmc, hcm⟩ := h.form
  injection hv with e1 e2 e3
  subst e1; subst e3
  have HM := Lib.hid e2
  have hmB : (m : Int) ≤ 9223372036854775807 := by omega
  have HA := Lib.hid h
  have HS := Lib.hid hs
  have HG := Lib.hid hs.size
  have HSZ := Lib.hid hsz
  have HB := Lib.hid (Below.refl w.heap.size w)
  clear h hs e2 hmc hcm
  go_enter Tryd.func3, Tryd.ntmps3
  go_upto_region 6 with (first
    | (go_at_call 8; refine (num_ev 1 _ (HS.out.below HG.out HB.out)).mono ?_; rintro y wn ⟨rfl, hbn⟩; have HB := Lib.hid (HB.out.trans (hbn.mono HB.out.size)); clear hbn)
    | (go_at_call 6; go_must (refine (N.nRead _ _ _).mono ?_; rintro y wn ⟨rfl, hbn⟩; have HB := Lib.hid (HB.out.trans (hbn.mono HB.out.size)); clear hbn))
    | (go_at_call 7; go_must (refine (N.nStart _ _).mono ?_; rintro y wn ⟨rfl, hbn⟩; have HB := Lib.hid (HB.out.trans (hbn.mono HB.out.size)); clear hbn))
    | (go_at_call 9; go_must (refine (N.nWrite _ _ _ _ _).mono ?_; rintro y wn ⟨rfl, hbn⟩; have HB := Lib.hid (HB.out.trans (hbn.mono HB.out.size)); clear hbn))
    | (go_at_call 10; go_must (refine (N.nSync _).mono ?_; rintro y wn ⟨rfl, hbn⟩; have HB := Lib.hid (HB.out.trans (hbn.mono HB.out.size)); clear hbn))
    | (go_at_call 11; go_must (refine (N.nArm _ _).mono ?_; rintro y wn ⟨rfl, hbn⟩; have HB := Lib.hid (HB.out.trans (hbn.mono HB.out.size)); clear hbn))
    | (go_at_call 12; go_must (refine (N.nSize _).mono ?_; rintro y wn ⟨rfl, hbn⟩; have HB := Lib.hid (HB.out.trans (hbn.mono HB.out.size)); clear hbn))
    | (go_at_call 13; go_must (refine (N.nWaits _).mono ?_; rintro y wn ⟨rfl, hbn⟩; have HB := Lib.hid (HB.out.trans (hbn.mono HB.out.size)); clear hbn))
    | (go_at_call 14; go_must (refine (N.nDown _).mono ?_; rintro y wn ⟨rfl, hbn⟩; have HB := Lib.hid (HB.out.trans (hbn.mono HB.out.size)); clear hbn))
    | (go_at_call 15; go_must (refine (N.nClone _).mono ?_; rintro y wn ⟨rfl, hbn⟩; have HB := Lib.hid (HB.out.trans (hbn.mono HB.out.size)); clear hbn)))
  by_cases hbig : 3000 < size ∧ size ≤ 4194304
  · obtain ⟨hb1, hb2⟩ := hbig
    go_wp2_with (go_at_call 16; go_must (refine (sure_any B _).mono ?_; rintro y wn ⟨rfl, hbn⟩; have HB := Lib.hid (HB.out.trans (hbn.mono HB.out.size)); clear hbn))
    go_ret
    exact ⟨rfl, HB.out⟩
  · by_cases hno : size < 1 ∨ 4194304 < size
    · have HNO := Lib.hid hno
      have hg : (¬ 3000 < size) ∨ (3000 < size ∧ ¬ size ≤ 4194304) := by omega
      clear hbig hno
      rcases hg with hg | ⟨hg1, hg2⟩
      all_goals
        go_upto_region 10 with (first
          | (go_at_call 18; go_must (refine (RefNew_no size _ HNO.out).mono ?_; rintro y wn ⟨rfl, hbn⟩; have HB := Lib.hid (HB.out.trans (hbn.mono HB.out.size)); clear hbn))
          | (go_at_call 17; go_must (refine (C.cNewNo size _ HSZ.out HNO.out).mono ?_; rintro y wn ⟨rfl, hbn⟩; have HB := Lib.hid (HB.out.trans (hbn.mono HB.out.size)); clear hbn)))
        have HB := Lib.hid (HB.out.alloc HB.out.size (.cells #[.slice none 0 0, .slice none 0 0, .int .i64 0, .bool false] 41))
        go_wp2_with (first
          | (go_at_call 8; go_must (refine (num_ev 1 _ (HS.out.below HG.out HB.out)).mono ?_; rintro y wn ⟨rfl, hbn⟩; have HB := Lib.hid (HB.out.trans (hbn.mono HB.out.size)); clear hbn))
          | (go_at_call 16; go_must (refine (sure_any B _).mono ?_; rintro y wn ⟨rfl, hbn⟩; have HB := Lib.hid (HB.out.trans (hbn.mono HB.out.size)); clear hbn)))
        go_ret
        exact ⟨rfl, HB.out⟩
    · obtain ⟨sz, hsz2⟩ : ∃ sz : Nat, size = (sz : Int) := ⟨size.toNat, by omega⟩
      have hg : ¬ (3000 : Int) < (sz : Int) := by omega
      have hl1 : 1 ≤ sz := by omega
      have hl2 : (sz : Int) ≤ 3000 := by omega
      clear hbig hno hsz
      subst hsz2
      go_upto_region 10 with (first
        | (go_at_call 18; go_must (refine (RefNew_agg sz _ rfl _ hl1 (by omega)).mono ?_; rintro y w2 ⟨A5, n5, c5, rfl, hr2, hb2⟩; have R2 := Lib.hid hr2; have HB2 := Lib.hid hb2; clear hr2 hb2))
        | (go_at_call 17; go_must (refine (live_newB B HB.out sz hl1 (by omega) _ rfl).mono ?_; rintro y w1 ⟨p, S, rfl, h1⟩; have L1 := Lib.hid h1; clear h1)))
      have ht2 := twin_new L1.out R2.out HB2.out
      obtain ⟨W3, hW3⟩ : ∃ W3, W3 = w2.alloc (.cells #[.slice A5 n5 c5, .slice none 0 0, .int .i64 (-1), .bool false] 41) := ⟨_, rfl⟩
      rw [← hW3] at ht2 ⊢
      generalize w2.heap.size = b at ht2 ⊢
      have T2 := Lib.hid ht2
      have hnum := num_ev 0 W3 (HS.out.below HG.out ht2.live.below)
      rw [er_zero, show ((0 : Nat) : Int) = 0 from rfl] at hnum
      have HNUM := Lib.hid hnum
      clear hnum hW3 ht2
      go_upto_block 0 with (go_at_call 8; go_must (refine HNUM.out.mono ?_; rintro y w4 ⟨rfl, hb4⟩; have T4 := Lib.hid (T2.out.more hb4); clear hb4))
      go_cut [12] (fun _ W => ∃ (S3 : Nat → Prop) (A3 : Option Addr) (n3 c3 : Nat) (A4 : Option Addr) (n4 c4 : Nat) (d : Dk), Twin C w W S3 (fun k => k = b) p b (.slice A3 n3 c3) (.slice A4 n4 c4) d ∧ d.B.length = sz)
      case first =>
        go_wp2_with fail
        go_loopw [12] (fun ii wr => ∃ (i : Nat) (S3 : Nat → Prop) (A3 : Option Addr) (n3 c3 : Nat) (A4 : Option Addr) (n4 c4 : Nat) (d : Dk), i ≤ 40 ∧ i ≤ m ∧ ii = .int .i64 (i : Int) ∧ d.L.length ≤ i ∧ Twin C w wr S3 (fun k => k = b) p b (.slice A3 n3 c3) (.slice A4 n4 c4) d ∧ d.B.length = sz) (fun ii _ => 40 - (intOf ii).toNat)
        case atStart => exact ⟨0, S, A5, n5, c5, none, 0, 0, newD sz, by omega, by omega, rfl, Nat.le_refl _, T4.out, List.length_replicate ..⟩
        case round =>
          obtain ⟨i, S3, A3, n3, c3, A4, n4, c4, d, hi, him, rfl, hdl, htw, hdb⟩ := hrel
          have TR := Lib.hid htw
          have HDL := Lib.hid (And.intro hdl hdb)
          clear htw hdl hdb
          by_cases hlt : i < m ∧ i < 40
          · obtain ⟨hlt1, hlt2⟩ := hlt
            obtain ⟨ab, ao, Ad, cd, Ak, ck, rfl, hab, hok, hc0, hc1, hc2, hc3, hc4, hsd, hsk⟩ := HA.out.at_ i (by have := HM.out; omega)
            obtain ⟨act, hact⟩ : ∃ act, act = la[i]'(by have := HM.out; omega) := ⟨_, rfl⟩
            rw [← hact] at hok hc0 hc1 hc2 hc3 hc4 hsd hsk
            obtain ⟨nd, hnd⟩ : ∃ nd, nd = act.data.length := ⟨_, rfl⟩
            obtain ⟨nk, hnk⟩ : ∃ nk, nk = act.keep.length := ⟨_, rfl⟩
            rw [← hnd] at hc3 hsd
            rw [← hnk] at hc4 hsk
            have HQ := Lib.hid (And.intro hab (And.intro hc0 (And.intro hc1 (And.intro hc2 (And.intro hc3 hc4)))))
            have HAC := Lib.hid (And.intro hok (And.intro hsd hsk))
            clear hab hok hc0 hc1 hc2 hc3 hc4 hsd hsk hact hnd hnk
            have i1 : (i : Int) < (m : Int) := by omega
            have i2 : (i : Int) < 40 := by omega
            have i0 : (0 : Int) ≤ (i : Int) := by omega
            go_wp2_with fail
            have hd0 : Below w.heap.size w wr.drew ∧ wr.drew.heap[b]? = some (bxo (.slice A3 n3 c3) (.slice A4 n4 c4) d) := ⟨TR.out.live.below.drew, TR.out.box⟩
            refine wp_region_held_drew (S := fun W => Below w.heap.size w W ∧ W.heap[b]? = some (bxo (.slice A3 n3 c3) (.slice A4 n4 c4) d)) (by kernel_rfl) hd0 (fun hHeld => ?_)
            clear hd0
            refine wpAnyH_take (i := 0) (oi := { dst := Option.some 106, op := Op.move (Operand.tmp 8), type := 23, pos := "law.go:95", after := #[], guard := Option.none }) (v := .pointer (some ⟨p, 0, none⟩)) rfl (by kernel_rfl) (by kernel_rfl) (by kernel_rfl) (fun _ _ _ h => h) (Or.inl ⟨by rfl, ?_⟩) hHeld ?_
            · intro W hSw
              obtain ⟨y0, y1, y2, y3, -⟩ := bx_cell hSw.2
              go_simp
            simp only [Act.put, List.setIfInBounds_toArray, List.set_cons_zero, List.set_cons_succ]
            refine wpAnyH_take (i := 1) (oi := { dst := Option.some 107, op := Op.load 41 (Operand.tmp 10), type := 41, pos := "law.go:95", after := #[], guard := Option.none }) (v := .agg #[.slice A3 n3 c3, .slice A4 n4 c4, .int .i64 d.armed, .bool d.off]) rfl (by kernel_rfl) (by kernel_rfl) (by kernel_rfl) (fun _ _ _ h => h) (Or.inl ⟨by rfl, ?_⟩) hHeld ?_
            · intro W hSw
              obtain ⟨y0, y1, y2, y3, -⟩ := bx_cell hSw.2
              go_simp
            simp only [Act.put, List.setIfInBounds_toArray, List.set_cons_zero, List.set_cons_succ]
            refine wpAnyH_take (i := 2) (oi := { dst := Option.some 108, op := Op.move (Operand.tmp 1), type := 22, pos := "law.go:95", after := #[], guard := Option.none }) (v := .slice (some ⟨ab, ao, none⟩) m c) rfl (by kernel_rfl) (by kernel_rfl) (by kernel_rfl) (fun _ _ _ h => h) (Or.inl ⟨by rfl, ?_⟩) hHeld ?_
            · intro W hSw
              have z0 := (hSw.1.cell (p := ⟨ab, ao + i * 5, none⟩) HQ.out.1).trans HQ.out.2.1; have z1 := (hSw.1.cell (p := ⟨ab, ao + i * 5 + 1, none⟩) HQ.out.1).trans HQ.out.2.2.1; have z2 := (hSw.1.cell (p := ⟨ab, ao + i * 5 + 2, none⟩) HQ.out.1).trans HQ.out.2.2.2.1; have z3 := (hSw.1.cell (p := ⟨ab, ao + i * 5 + 3, none⟩) HQ.out.1).trans HQ.out.2.2.2.2.1; have z4 := (hSw.1.cell (p := ⟨ab, ao + i * 5 + 4, none⟩) HQ.out.1).trans HQ.out.2.2.2.2.2
              go_simp
            simp only [Act.put, List.setIfInBounds_toArray, List.set_cons_zero, List.set_cons_succ]
            refine wpAnyH_take (i := 3) (oi := { dst := Option.some 109, op := Op.move (Operand.tmp 12), type := 3, pos := "law.go:95", after := #[], guard := Option.none }) (v := .int .i64 (i : Int)) rfl (by kernel_rfl) (by kernel_rfl) (by kernel_rfl) (fun _ _ _ h => h) (Or.inl ⟨by rfl, ?_⟩) hHeld ?_
            · intro W hSw
              have z0 := (hSw.1.cell (p := ⟨ab, ao + i * 5, none⟩) HQ.out.1).trans HQ.out.2.1; have z1 := (hSw.1.cell (p := ⟨ab, ao + i * 5 + 1, none⟩) HQ.out.1).trans HQ.out.2.2.1; have z2 := (hSw.1.cell (p := ⟨ab, ao + i * 5 + 2, none⟩) HQ.out.1).trans HQ.out.2.2.2.1; have z3 := (hSw.1.cell (p := ⟨ab, ao + i * 5 + 3, none⟩) HQ.out.1).trans HQ.out.2.2.2.2.1; have z4 := (hSw.1.cell (p := ⟨ab, ao + i * 5 + 4, none⟩) HQ.out.1).trans HQ.out.2.2.2.2.2
              go_simp
            simp only [Act.put, List.setIfInBounds_toArray, List.set_cons_zero, List.set_cons_succ]
            refine wpAnyH_take (i := 4) (oi := { dst := Option.some 110, op := Op.indexAddr 22 (Operand.tmp 108) (Operand.tmp 109), type := 0, pos := "law.go:95", after := #[{ on := 2, ground := Ground.data }, { on := 3, ground := Ground.data }], guard := Option.none }) (v := .pointer (some ⟨ab, ao + i * 5, none⟩)) rfl (by kernel_rfl) (by kernel_rfl) (by kernel_rfl) (fun _ _ _ h => h) (Or.inl ⟨by rfl, ?_⟩) hHeld ?_
            · intro W hSw
              have z0 := (hSw.1.cell (p := ⟨ab, ao + i * 5, none⟩) HQ.out.1).trans HQ.out.2.1; have z1 := (hSw.1.cell (p := ⟨ab, ao + i * 5 + 1, none⟩) HQ.out.1).trans HQ.out.2.2.1; have z2 := (hSw.1.cell (p := ⟨ab, ao + i * 5 + 2, none⟩) HQ.out.1).trans HQ.out.2.2.2.1; have z3 := (hSw.1.cell (p := ⟨ab, ao + i * 5 + 3, none⟩) HQ.out.1).trans HQ.out.2.2.2.2.1; have z4 := (hSw.1.cell (p := ⟨ab, ao + i * 5 + 4, none⟩) HQ.out.1).trans HQ.out.2.2.2.2.2
              go_simp
            simp only [Act.put, List.setIfInBounds_toArray, List.set_cons_zero, List.set_cons_succ]
            refine wpAnyH_take (i := 5) (oi := { dst := Option.some 111, op := Op.load 48 (Operand.tmp 110), type := 48, pos := "law.go:95", after := #[{ on := 4, ground := Ground.data }], guard := Option.none }) (v := .agg #[.int .i64 act.kind, .int .i64 act.at_, .int .i64 act.n, .slice Ad nd cd, .slice Ak nk ck]) rfl (by kernel_rfl) (by kernel_rfl) (by kernel_rfl) (fun _ _ _ h => h) (Or.inl ⟨by rfl, ?_⟩) hHeld ?_
            · intro W hSw
              have z0 := (hSw.1.cell (p := ⟨ab, ao + i * 5, none⟩) HQ.out.1).trans HQ.out.2.1; have z1 := (hSw.1.cell (p := ⟨ab, ao + i * 5 + 1, none⟩) HQ.out.1).trans HQ.out.2.2.1; have z2 := (hSw.1.cell (p := ⟨ab, ao + i * 5 + 2, none⟩) HQ.out.1).trans HQ.out.2.2.2.1; have z3 := (hSw.1.cell (p := ⟨ab, ao + i * 5 + 3, none⟩) HQ.out.1).trans HQ.out.2.2.2.2.1; have z4 := (hSw.1.cell (p := ⟨ab, ao + i * 5 + 4, none⟩) HQ.out.1).trans HQ.out.2.2.2.2.2
              go_simp
            simp only [Act.put, List.setIfInBounds_toArray, List.set_cons_zero, List.set_cons_succ]
            refine wpAnyH_ready (rs := [6, 10]) (by kernel_rfl) (by simp) ?_
            refine AllReadyH.cons (o := { dst := Option.some 112, op := Op.call { callee := Callee.value (Operand.func 19), args := #[Operand.tmp 106, Operand.tmp 107, Operand.tmp 111], argTypes := #[23, 41, 48] }, type := 44, pos := "law.go:95", after := #[{ on := 0, ground := Ground.data }, { on := 1, ground := Ground.data }, { on := 5, ground := Ground.data }], guard := Option.none }) rfl (fun K hK => ?_) (AllReadyH.cons (o := { dst := Option.some 13, op := Op.alloc 41, type := 0, pos := "law.go:95", after := #[], guard := Option.none }) rfl (fun K hK => ?_) AllReadyH.nil)
            · go_simp
              refine (twin_step C E (TR.out.more (Below.refl _ _).drew) HS.out act Ad Ak nd cd nk ck HAC.out.1 HAC.out.2.1 HAC.out.2.2 (by have := HDL.out.1; omega)).mono ?_
              rintro y w7 ⟨S7, A7, n7, c7, A8, n8, c8, rfl, hn7, ht7⟩
              have hg7 := hn7.guard (.cells #[.slice none 0 0, .slice none 0 0, .int .i64 0, .bool false] 41)
              refine hK.out _ _ ⟨hn7.live.below, hn7.box⟩ (fun hHeld => ?_)
              clear hK K
              refine wpAnyH_take (i := 7) (oi := { dst := Option.some 105, op := Op.move (Operand.tmp 112), type := 44, pos := "law.go:95", after := #[{ on := 6, ground := Ground.data }], guard := Option.none }) (v := .tuple #[.agg #[.slice A7 n7 c7, .slice A8 n8 c8, .int .i64 (actD d act).armed, .bool (actD d act).off], .bool true]) rfl (by kernel_rfl) (by kernel_rfl) (by kernel_rfl) (fun _ _ _ h => h) (Or.inl ⟨by rfl, ?_⟩) hHeld ?_
              · intro W hSw
                go_simp
              simp only [Act.put, List.setIfInBounds_toArray, List.set_cons_zero, List.set_cons_succ]
              refine wpAnyH_take (i := 8) (oi := { dst := Option.some 113, op := Op.extract (Operand.tmp 105) 0, type := 41, pos := "law.go:95", after := #[{ on := 7, ground := Ground.data }], guard := Option.none }) (v := .agg #[.slice A7 n7 c7, .slice A8 n8 c8, .int .i64 (actD d act).armed, .bool (actD d act).off]) rfl (by kernel_rfl) (by kernel_rfl) (by kernel_rfl) (fun _ _ _ h => h) (Or.inl ⟨by rfl, ?_⟩) hHeld ?_
              · intro W hSw
                go_simp
              simp only [Act.put, List.setIfInBounds_toArray, List.set_cons_zero, List.set_cons_succ]
              refine wpAnyH_take (i := 9) (oi := { dst := Option.some 114, op := Op.extract (Operand.tmp 105) 1, type := 4, pos := "law.go:95", after := #[{ on := 7, ground := Ground.data }, { on := 11, ground := Ground.gcOnly Departure.lateStores }], guard := Option.none }) (v := .bool true) rfl (by kernel_rfl) (by kernel_rfl) (by kernel_rfl) (fun _ _ _ h => h) (Or.inl ⟨by rfl, ?_⟩) hHeld ?_
              · intro W hSw
                go_simp
              simp only [Act.put, List.setIfInBounds_toArray, List.set_cons_zero, List.set_cons_succ]
              refine wpAnyH_ready (rs := [10]) (by kernel_rfl) (by simp) ?_
              refine AllReadyH.cons (o := { dst := Option.some 13, op := Op.alloc 41, type := 0, pos := "law.go:95", after := #[], guard := Option.none }) rfl (fun K hK => ?_) AllReadyH.nil
              go_simp
              refine hK.out _ _ ⟨hg7.live.below, hg7.box⟩ (fun hHeld => ?_)
              clear hK K
              have hzb := heap_alloc_new w7 (.cells #[.slice none 0 0, .slice none 0 0, .int .i64 0, .bool false] 41)
              have HBQ := Lib.hid (bx_lt hn7.box)
              have HT7 := Lib.hid ((Turn.refl S3 wr).drew.trans (ht7.trans (Turn.of_below ((Below.refl _ _).alloc (Nat.le_refl _) (.cells #[.slice none 0 0, .slice none 0 0, .int .i64 0, .bool false] 41)))))
              obtain ⟨wy, hwy⟩ : ∃ wy, wy = w7.alloc (.cells #[.slice none 0 0, .slice none 0 0, .int .i64 0, .bool false] 41) := ⟨_, rfl⟩
              rw [← hwy] at hg7 hzb HT7 ⊢
              have HZB := Lib.hid hzb
              have HN7 := Lib.hid hg7
              have HGE := Lib.hid (show wr.heap.size ≤ w7.heap.size from ht7.kept.size)
              clear hn7 ht7 hg7 hzb hwy
              obtain ⟨r0, r1, r2, r3, rf⟩ : wy.cell? ⟨w7.heap.size, 0, none⟩ = some (.slice none 0 0) ∧ wy.cell? ⟨w7.heap.size, 1, none⟩ = some (.slice none 0 0) ∧ wy.cell? ⟨w7.heap.size, 2, none⟩ = some (.int .i64 0) ∧ wy.cell? ⟨w7.heap.size, 3, none⟩ = some (.bool false) ∧ ∀ j, wy.frozen? ⟨w7.heap.size, j, none⟩ = false := zero_cell HZB.out
              have f0 := rf 0
              have f1 := rf 1
              have f2 := rf 2
              have f3 := rf 3
              clear rf
              refine wpAnyH_ready (rs := [11]) (by kernel_rfl) (by simp) ?_
              refine AllReadyH.cons (o := { dst := Option.none, op := Op.store 41 (Operand.tmp 13) (Operand.tmp 113), type := 0, pos := "law.go:95", after := #[{ on := 10, ground := Ground.data }, { on := 8, ground := Ground.data }, { on := 6, ground := Ground.chain }, { on := 0, ground := Ground.phase }, { on := 1, ground := Ground.phase }, { on := 2, ground := Ground.phase }, { on := 3, ground := Ground.phase }, { on := 4, ground := Ground.phase }, { on := 5, ground := Ground.phase }, { on := 6, ground := Ground.phase }, { on := 7, ground := Ground.phase }, { on := 8, ground := Ground.phase }, { on := 9, ground := Ground.textOnly Departure.lateStores }, { on := 10, ground := Ground.phase }], guard := Option.none }) rfl (fun K hK => ?_) AllReadyH.nil
              go_simp
              have hn8 := HN7.out.set4 (q := w7.heap.size) (Or.inr rfl) (by have := bx_lt HN7.out.box; have := HBQ.out; omega) (.slice A7 n7 c7) (.slice A8 n8 c8) (.int .i64 (actD d act).armed) (.bool (actD d act).off)
              have hz8 := bx_put HZB.out (.slice A7 n7 c7) (.slice A8 n8 c8) (.int .i64 (actD d act).armed) (.bool (actD d act).off)
              refine hK.out _ _ ⟨hn8.live.below, hn8.box⟩ (fun hHeld => ?_)
              clear hK K r0 r1 r2 r3 f0 f1 f2 f3
              refine wpAnyH_take (i := 12) (oi := { dst := Option.some 14, op := Op.assign (Operand.tmp 114), type := 4, pos := "law.go:95", after := #[{ on := 9, ground := Ground.data }, { on := 11, ground := Ground.chain }, { on := 0, ground := Ground.phase }, { on := 1, ground := Ground.phase }, { on := 2, ground := Ground.phase }, { on := 3, ground := Ground.phase }, { on := 4, ground := Ground.phase }, { on := 5, ground := Ground.phase }, { on := 6, ground := Ground.phase }, { on := 7, ground := Ground.phase }, { on := 8, ground := Ground.phase }, { on := 9, ground := Ground.phase }, { on := 10, ground := Ground.phase }, { on := 11, ground := Ground.phase }], guard := Option.none }) (v := .bool true) rfl (by kernel_rfl) (by kernel_rfl) (by kernel_rfl) (fun _ _ _ h => h) (Or.inl ⟨by rfl, ?_⟩) hHeld ?_
              · intro W hSw
                go_simp
              simp only [Act.put, List.setIfInBounds_toArray, List.set_cons_zero, List.set_cons_succ]
              clear hHeld
              obtain ⟨w8, hw8⟩ : ∃ w8, w8 = ((((wy.setCell ⟨w7.heap.size, 0, none⟩ (.slice A7 n7 c7)).setCell ⟨w7.heap.size, 1, none⟩ (.slice A8 n8 c8)).setCell ⟨w7.heap.size, 2, none⟩ (.int .i64 (actD d act).armed)).setCell ⟨w7.heap.size, 3, none⟩ (.bool (actD d act).off)) := ⟨_, rfl⟩
              rw [← hw8] at hn8 hz8 ⊢
              have hk8 : ∀ k, k < wr.heap.size → ¬ S3 k → w8.heap[k]? = wr.heap[k]? := fun k h1 h2 => by rw [hw8, set4_block _ _ _ _ _ _ k (by have := HT7.out.kept.size; have := HGE.out; omega)]; exact HT7.out.kept.block k h1 h2
              have hs8 : wr.heap.size ≤ w8.heap.size := by have := HT7.out.kept.size; rw [hw8]; simpa [World.setCell] using this
              have HK8 := Lib.hid (And.intro hk8 hs8)
              clear hk8 hs8
              obtain ⟨bq, hbq⟩ : ∃ bq, bq = w7.heap.size := ⟨_, rfl⟩
              rw [← hbq] at hn8 hz8 ⊢
              clear hbq hw8
              obtain ⟨y0, y1, y2, y3, -⟩ := bx_cell (d := actD d act) hz8
              obtain ⟨x0, x1, x2, x3, xf⟩ := bx_cell hn8.box
              have g0 := xf 0
              have g1 := xf 1
              have g2 := xf 2
              have g3 := xf 3
              clear xf
              have HN8 := Lib.hid hn8
              clear hn8 hz8
              refine wpAnyH_done (by kernel_rfl) ?_ _
              go_upto_region 19 with fail
              have ht9 := HN8.out.put.fewer (Z' := (fun k => k = b)) (fun k hk => Or.inl hk) TR.out.zb
              clear y0 y1 y2 y3 x0 x1 x2 x3 g0 g1 g2 g3
              obtain ⟨w9, hw9⟩ : ∃ w9, w9 = ((((w8.setCell ⟨b, 0, none⟩ (.slice A7 n7 c7)).setCell ⟨b, 1, none⟩ (.slice A8 n8 c8)).setCell ⟨b, 2, none⟩ (.int .i64 (actD d act).armed)).setCell ⟨b, 3, none⟩ (.bool (actD d act).off)) := ⟨_, rfl⟩
              have hk9 : ∀ k, k < wr.heap.size → ¬ S3 k → k ≠ b → w9.heap[k]? = wr.heap[k]? := fun k h1 h2 h3 => by rw [hw9, set4_block _ _ _ _ _ _ k h3]; exact HK8.out.1 k h1 h2
              have hs9 : wr.heap.size ≤ w9.heap.size := by have := HK8.out.2; rw [hw9]; simpa [World.setCell] using this
              have HCH := Lib.hid (And.intro hk9 (And.intro hs9 (show ∀ k, S7 k → S3 k ∨ wr.heap.size ≤ k from HT7.out.new)))
              rw [← hw9] at ht9 ⊢
              have T9 := Lib.hid ht9
              clear ht9 hw9 hk9 hs9
              have hnL : n8 = (actD d act).L.length := T9.out.rd.l.form.elim fun _ h => h.elim fun _ h => by injection h.1
              have hdl9 : (actD d act).L.length ≤ i + 1 := Nat.le_trans (actD_lenL d act) (Nat.succ_le_succ HDL.out.1)
              have hdb9 : (actD d act).B.length = sz := (actD_len TR.out.rd.ok act).trans HDL.out.2
              have HD9 := Lib.hid (And.intro hnL (And.intro hdl9 hdb9))
              clear hnL hdl9 hdb9
              generalize hd9 : actD d act = d9 at T9 HD9
              clear hd9
              have hcd := live_down E T9.out.live.drew
              obtain ⟨o9, ho9⟩ : ∃ o9, o9 = d9.off := ⟨_, rfl⟩
              rw [← ho9] at hcd
              have HCD := Lib.hid hcd
              have HO9 := Lib.hid ho9
              have hd0 : Below w9.heap.size w9 w9.drew ∧ w9.drew.heap[b]? = some (bxo (.slice A7 n7 c7) (.slice A8 n8 c8) d9) := ⟨(Below.refl _ _).drew, T9.out.box⟩
              clear hcd ho9
              go_wp2_with fail
              refine wp_region_held_drew (S := fun W => Below w9.heap.size w9 W ∧ W.heap[b]? = some (bxo (.slice A7 n7 c7) (.slice A8 n8 c8) d9)) (by kernel_rfl) hd0 (fun hHeld => ?_)
              clear hd0
              refine wpAnyH_take (i := 0) (oi := { dst := Option.some 116, op := Op.move (Operand.tmp 14), type := 4, pos := "law.go:97", after := #[], guard := Option.none }) (v := .bool true) rfl (by kernel_rfl) (by kernel_rfl) (by kernel_rfl) (fun _ _ _ h => h) (Or.inl ⟨by rfl, ?_⟩) hHeld ?_
              · intro W hSw
                go_simp
              simp only [Act.put, List.setIfInBounds_toArray, List.set_cons_zero, List.set_cons_succ]
              refine wpAnyH_take (i := 1) (oi := { dst := Option.some 117, op := Op.unOp UnOp.not 4 (Operand.tmp 116), type := 4, pos := "law.go:97", after := #[{ on := 0, ground := Ground.data }], guard := Option.none }) (v := .bool false) rfl (by kernel_rfl) (by kernel_rfl) (by kernel_rfl) (fun _ _ _ h => h) (Or.inl ⟨by rfl, ?_⟩) hHeld ?_
              · intro W hSw
                go_simp
              simp only [Act.put, List.setIfInBounds_toArray, List.set_cons_zero, List.set_cons_succ]
              refine wpAnyH_take (i := 2) (oi := { dst := Option.some 118, op := Op.move (Operand.tmp 117), type := 4, pos := "law.go:97", after := #[{ on := 1, ground := Ground.data }], guard := Option.none }) (v := .bool false) rfl (by kernel_rfl) (by kernel_rfl) (by kernel_rfl) (fun _ _ _ h => h) (Or.inl ⟨by rfl, ?_⟩) hHeld ?_
              · intro W hSw
                go_simp
              simp only [Act.put, List.setIfInBounds_toArray, List.set_cons_zero, List.set_cons_succ]
              refine wpAnyH_take (i := 3) (oi := { dst := Option.some 119, op := Op.move (Operand.tmp 8), type := 23, pos := "law.go:97", after := #[{ on := 2, ground := Ground.guard }], guard := Option.some (2, false) }) (v := .pointer (some ⟨p, 0, none⟩)) rfl (by kernel_rfl) (by kernel_rfl) (by kernel_rfl) (fun _ _ _ h => h) (Or.inl ⟨by rfl, ?_⟩) hHeld ?_
              · intro W hSw
                go_simp
              simp only [Act.put, List.setIfInBounds_toArray, List.set_cons_zero, List.set_cons_succ]
              refine wpAnyH_take (i := 5) (oi := { dst := Option.some 121, op := Op.fieldAddr 41 (Operand.tmp 10) 3, type := 0, pos := "law.go:97", after := #[{ on := 2, ground := Ground.guard }], guard := Option.some (2, false) }) (v := .pointer (some ⟨b, 3, none⟩)) rfl (by kernel_rfl) (by kernel_rfl) (by kernel_rfl) (fun _ _ _ h => h) (Or.inl ⟨by rfl, ?_⟩) hHeld ?_
              · intro W hSw
                obtain ⟨-, -, -, y3, -⟩ := bx_cell hSw.2; rw [← HO9.out] at y3
                go_simp
              simp only [Act.put, List.setIfInBounds_toArray, List.set_cons_zero, List.set_cons_succ]
              refine wpAnyH_take (i := 6) (oi := { dst := Option.some 122, op := Op.load 4 (Operand.tmp 121), type := 4, pos := "law.go:97", after := #[{ on := 5, ground := Ground.data }, { on := 2, ground := Ground.guard }], guard := Option.some (2, false) }) (v := .bool o9) rfl (by kernel_rfl) (by kernel_rfl) (by kernel_rfl) (fun _ _ _ h => h) (Or.inl ⟨by rfl, ?_⟩) hHeld ?_
              · intro W hSw
                obtain ⟨-, -, -, y3, -⟩ := bx_cell hSw.2; rw [← HO9.out] at y3
                go_simp
              simp only [Act.put, List.setIfInBounds_toArray, List.set_cons_zero, List.set_cons_succ]
              refine wpAnyH_ready (rs := [4]) (by kernel_rfl) (by simp) ?_
              refine AllReadyH.cons (o := { dst := Option.some 120, op := Op.call { callee := Callee.value (Operand.func 14), args := #[Operand.tmp 119], argTypes := #[23] }, type := 4, pos := "law.go:97", after := #[{ on := 3, ground := Ground.data }, { on := 2, ground := Ground.chain }, { on := 2, ground := Ground.guard }], guard := Option.some (2, false) }) rfl (fun K hK => ?_) AllReadyH.nil
              go_simp
              refine HCD.out.mono ?_
              rintro y w10 ⟨rfl, h10, hb10⟩
              have hb10' : Below w9.heap.size w9 w10 := (Below.refl _ _).drew.trans hb10
              have T10 := Lib.hid (T9.out.more hb10')
              refine hK.out _ _ ⟨hb10', T10.out.box⟩ (fun hHeld => ?_)
              clear hK K h10 hb10
              have HB10 := Lib.hid hb10'
              have hcw := live_waits T10.out.live
              rw [← HD9.out.1] at hcw
              have HCW := Lib.hid hcw
              clear hb10' hcw
              refine wpAnyH_take (i := 7) (oi := { dst := Option.some 123, op := Op.binOp BinOp.neq 4 (Operand.tmp 120) (Operand.tmp 122) 4, type := 4, pos := "law.go:97", after := #[{ on := 4, ground := Ground.data }, { on := 6, ground := Ground.data }, { on := 2, ground := Ground.guard }], guard := Option.some (2, false) }) (v := .bool false) rfl (by kernel_rfl) (by kernel_rfl) (by kernel_rfl) (fun _ _ _ h => h) (Or.inl ⟨by rfl, ?_⟩) hHeld ?_
              · intro W hSw
                go_simp
              simp only [Act.put, List.setIfInBounds_toArray, List.set_cons_zero, List.set_cons_succ]
              refine wpAnyH_take (i := 8) (oi := { dst := Option.some 124, op := Op.pick (Operand.tmp 118) (Operand.const (Value.bool true)) (Operand.tmp 123), type := 4, pos := "law.go:97", after := #[{ on := 2, ground := Ground.data }, { on := 7, ground := Ground.data }], guard := Option.none }) (v := .bool false) rfl (by kernel_rfl) (by kernel_rfl) (by kernel_rfl) (fun _ _ _ h => h) (Or.inl ⟨by rfl, ?_⟩) hHeld ?_
              · intro W hSw
                go_simp
              simp only [Act.put, List.setIfInBounds_toArray, List.set_cons_zero, List.set_cons_succ]
              refine wpAnyH_take (i := 9) (oi := { dst := Option.some 125, op := Op.move (Operand.tmp 124), type := 4, pos := "law.go:97", after := #[{ on := 8, ground := Ground.data }, { on := 4, ground := Ground.chain }], guard := Option.none }) (v := .bool false) rfl (by kernel_rfl) (by kernel_rfl) (by kernel_rfl) (fun _ _ _ h => h) (Or.inl ⟨by rfl, ?_⟩) hHeld ?_
              · intro W hSw
                go_simp
              simp only [Act.put, List.setIfInBounds_toArray, List.set_cons_zero, List.set_cons_succ]
              refine wpAnyH_take (i := 10) (oi := { dst := Option.some 126, op := Op.move (Operand.tmp 8), type := 23, pos := "law.go:97", after := #[{ on := 9, ground := Ground.guard }], guard := Option.some (9, false) }) (v := .pointer (some ⟨p, 0, none⟩)) rfl (by kernel_rfl) (by kernel_rfl) (by kernel_rfl) (fun _ _ _ h => h) (Or.inl ⟨by rfl, ?_⟩) hHeld ?_
              · intro W hSw
                go_simp
              simp only [Act.put, List.setIfInBounds_toArray, List.set_cons_zero, List.set_cons_succ]
              refine wpAnyH_take (i := 12) (oi := { dst := Option.some 128, op := Op.fieldAddr 41 (Operand.tmp 10) 1, type := 0, pos := "law.go:97", after := #[{ on := 9, ground := Ground.guard }], guard := Option.some (9, false) }) (v := .pointer (some ⟨b, 1, none⟩)) rfl (by kernel_rfl) (by kernel_rfl) (by kernel_rfl) (fun _ _ _ h => h) (Or.inl ⟨by rfl, ?_⟩) hHeld ?_
              · intro W hSw
                obtain ⟨-, y1, -, -, -⟩ := bx_cell hSw.2
                go_simp
              simp only [Act.put, List.setIfInBounds_toArray, List.set_cons_zero, List.set_cons_succ]
              refine wpAnyH_take (i := 13) (oi := { dst := Option.some 129, op := Op.load 39 (Operand.tmp 128), type := 39, pos := "law.go:97", after := #[{ on := 12, ground := Ground.data }, { on := 9, ground := Ground.guard }], guard := Option.some (9, false) }) (v := .slice A8 n8 c8) rfl (by kernel_rfl) (by kernel_rfl) (by kernel_rfl) (fun _ _ _ h => h) (Or.inl ⟨by rfl, ?_⟩) hHeld ?_
              · intro W hSw
                obtain ⟨-, y1, -, -, -⟩ := bx_cell hSw.2
                go_simp
              simp only [Act.put, List.setIfInBounds_toArray, List.set_cons_zero, List.set_cons_succ]
              refine wpAnyH_take (i := 14) (oi := { dst := Option.some 130, op := Op.call { callee := Callee.builtin Builtin.len, args := #[Operand.tmp 129], argTypes := #[39] }, type := 3, pos := "law.go:97", after := #[{ on := 13, ground := Ground.data }, { on := 9, ground := Ground.guard }], guard := Option.some (9, false) }) (v := .int .i64 (n8 : Int)) rfl (by kernel_rfl) (by kernel_rfl) (by kernel_rfl) (fun _ _ _ h => h) (Or.inl ⟨by rfl, ?_⟩) hHeld ?_
              · intro W hSw
                obtain ⟨-, y1, -, -, -⟩ := bx_cell hSw.2
                go_simp
              simp only [Act.put, List.setIfInBounds_toArray, List.set_cons_zero, List.set_cons_succ]
              refine wpAnyH_ready (rs := [11]) (by kernel_rfl) (by simp) ?_
              refine AllReadyH.cons (o := { dst := Option.some 127, op := Op.call { callee := Callee.value (Operand.func 13), args := #[Operand.tmp 126], argTypes := #[23] }, type := 3, pos := "law.go:97", after := #[{ on := 10, ground := Ground.data }, { on := 9, ground := Ground.chain }, { on := 9, ground := Ground.guard }], guard := Option.some (9, false) }) rfl (fun K hK => ?_) AllReadyH.nil
              go_simp
              refine HCW.out.mono ?_
              rintro y w11 ⟨rfl, h11, hb11⟩
              have hb11' : Below w9.heap.size w9 w11 := HB10.out.trans (hb11.mono HB10.out.size)
              have T11 := Lib.hid (T9.out.more hb11')
              refine hK.out _ _ ⟨hb11', T11.out.box⟩ (fun hHeld => ?_)
              clear hK K h11 hb11
              have HB11 := Lib.hid hb11'
              have hcs := live_size E T11.out.live
              rw [HD9.out.2.2] at hcs
              have HCS := Lib.hid hcs
              clear hb11' hcs
              refine wpAnyH_take (i := 15) (oi := { dst := Option.some 131, op := Op.binOp BinOp.neq 3 (Operand.tmp 127) (Operand.tmp 130) 3, type := 4, pos := "law.go:97", after := #[{ on := 11, ground := Ground.data }, { on := 14, ground := Ground.data }, { on := 9, ground := Ground.guard }], guard := Option.some (9, false) }) (v := .bool false) rfl (by kernel_rfl) (by kernel_rfl) (by kernel_rfl) (fun _ _ _ h => h) (Or.inl ⟨by rfl, ?_⟩) hHeld ?_
              · intro W hSw
                go_simp
              simp only [Act.put, List.setIfInBounds_toArray, List.set_cons_zero, List.set_cons_succ]
              refine wpAnyH_take (i := 16) (oi := { dst := Option.some 132, op := Op.pick (Operand.tmp 125) (Operand.const (Value.bool true)) (Operand.tmp 131), type := 4, pos := "law.go:97", after := #[{ on := 9, ground := Ground.data }, { on := 15, ground := Ground.data }], guard := Option.none }) (v := .bool false) rfl (by kernel_rfl) (by kernel_rfl) (by kernel_rfl) (fun _ _ _ h => h) (Or.inl ⟨by rfl, ?_⟩) hHeld ?_
              · intro W hSw
                go_simp
              simp only [Act.put, List.setIfInBounds_toArray, List.set_cons_zero, List.set_cons_succ]
              refine wpAnyH_take (i := 17) (oi := { dst := Option.some 133, op := Op.move (Operand.tmp 132), type := 4, pos := "law.go:97", after := #[{ on := 16, ground := Ground.data }, { on := 11, ground := Ground.chain }], guard := Option.none }) (v := .bool false) rfl (by kernel_rfl) (by kernel_rfl) (by kernel_rfl) (fun _ _ _ h => h) (Or.inl ⟨by rfl, ?_⟩) hHeld ?_
              · intro W hSw
                go_simp
              simp only [Act.put, List.setIfInBounds_toArray, List.set_cons_zero, List.set_cons_succ]
              refine wpAnyH_take (i := 18) (oi := { dst := Option.some 134, op := Op.move (Operand.tmp 8), type := 23, pos := "law.go:97", after := #[{ on := 17, ground := Ground.guard }], guard := Option.some (17, false) }) (v := .pointer (some ⟨p, 0, none⟩)) rfl (by kernel_rfl) (by kernel_rfl) (by kernel_rfl) (fun _ _ _ h => h) (Or.inl ⟨by rfl, ?_⟩) hHeld ?_
              · intro W hSw
                go_simp
              simp only [Act.put, List.setIfInBounds_toArray, List.set_cons_zero, List.set_cons_succ]
              refine wpAnyH_take (i := 20) (oi := { dst := Option.some 136, op := Op.move (Operand.tmp 0), type := 3, pos := "law.go:97", after := #[{ on := 17, ground := Ground.guard }], guard := Option.some (17, false) }) (v := .int .i64 (sz : Int)) rfl (by kernel_rfl) (by kernel_rfl) (by kernel_rfl) (fun _ _ _ h => h) (Or.inl ⟨by rfl, ?_⟩) hHeld ?_
              · intro W hSw
                go_simp
              simp only [Act.put, List.setIfInBounds_toArray, List.set_cons_zero, List.set_cons_succ]
              refine wpAnyH_ready (rs := [19]) (by kernel_rfl) (by simp) ?_
              refine AllReadyH.cons (o := { dst := Option.some 135, op := Op.call { callee := Callee.value (Operand.func 12), args := #[Operand.tmp 134], argTypes := #[23] }, type := 3, pos := "law.go:97", after := #[{ on := 18, ground := Ground.data }, { on := 17, ground := Ground.chain }, { on := 17, ground := Ground.guard }], guard := Option.some (17, false) }) rfl (fun K hK => ?_) AllReadyH.nil
              go_simp
              refine HCS.out.mono ?_
              rintro y w12 ⟨rfl, h12, hb12⟩
              have hb12' : Below w9.heap.size w9 w12 := HB11.out.trans (hb12.mono HB11.out.size)
              have T12 := Lib.hid (T9.out.more hb12')
              refine hK.out _ _ ⟨hb12', T12.out.box⟩ (fun hHeld => ?_)
              clear hK K h12 hb12 hb12'
              refine wpAnyH_take (i := 21) (oi := { dst := Option.some 137, op := Op.binOp BinOp.neq 3 (Operand.tmp 135) (Operand.tmp 136) 3, type := 4, pos := "law.go:97", after := #[{ on := 19, ground := Ground.data }, { on := 20, ground := Ground.data }, { on := 17, ground := Ground.guard }], guard := Option.some (17, false) }) (v := .bool false) rfl (by kernel_rfl) (by kernel_rfl) (by kernel_rfl) (fun _ _ _ h => h) (Or.inl ⟨by rfl, ?_⟩) hHeld ?_
              · intro W hSw
                go_simp
              simp only [Act.put, List.setIfInBounds_toArray, List.set_cons_zero, List.set_cons_succ]
              refine wpAnyH_take (i := 22) (oi := { dst := Option.some 138, op := Op.pick (Operand.tmp 133) (Operand.const (Value.bool true)) (Operand.tmp 137), type := 4, pos := "law.go:97", after := #[{ on := 17, ground := Ground.data }, { on := 21, ground := Ground.data }], guard := Option.none }) (v := .bool false) rfl (by kernel_rfl) (by kernel_rfl) (by kernel_rfl) (fun _ _ _ h => h) (Or.inl ⟨by rfl, ?_⟩) hHeld ?_
              · intro W hSw
                go_simp
              simp only [Act.put, List.setIfInBounds_toArray, List.set_cons_zero, List.set_cons_succ]
              clear hHeld
              refine wpAnyH_done (by kernel_rfl) ?_ _
              go_wp2_with fail
              go_roundw
              case rel => exact ⟨i + 1, S7, A7, n7, c7, A8, n8, c8, d9, by omega, by omega, by go_num, HD9.out.2.1, T12.out, HD9.out.2.2⟩
              case measure => simp [intOf]; omega
            · go_simp
              have hg6 := (TR.out.guard (.cells #[.slice none 0 0, .slice none 0 0, .int .i64 0, .bool false] 41)).more (Below.refl _ _).drew
              refine hK.out _ _ ⟨hg6.live.below, hg6.box⟩ (fun hHeld => ?_)
              clear hK K
              refine wpAnyH_ready (rs := [6]) (by kernel_rfl) (by simp) ?_
              refine AllReadyH.cons (o := { dst := Option.some 112, op := Op.call { callee := Callee.value (Operand.func 19), args := #[Operand.tmp 106, Operand.tmp 107, Operand.tmp 111], argTypes := #[23, 41, 48] }, type := 44, pos := "law.go:95", after := #[{ on := 0, ground := Ground.data }, { on := 1, ground := Ground.data }, { on := 5, ground := Ground.data }], guard := Option.none }) rfl (fun K hK => ?_) AllReadyH.nil
              go_simp
              refine (twin_step C E hg6 HS.out act Ad Ak nd cd nk ck HAC.out.1 HAC.out.2.1 HAC.out.2.2 (by have := HDL.out.1; omega)).mono ?_
              rintro y w7 ⟨S7, A7, n7, c7, A8, n8, c8, rfl, hn7, ht7⟩
              have HBQ := Lib.hid (bx_lt TR.out.box)
              have hzb : w7.heap[wr.heap.size]? = some (.cells #[.slice none 0 0, .slice none 0 0, .int .i64 0, .bool false] 41) := (ht7.kept.block wr.heap.size (by rw [World.size_drew, World.size_alloc]; omega) (fun hs => by have := C.foot TR.out.live.dk _ hs; omega)).trans (heap_alloc_new wr _)
              have HZB := Lib.hid hzb
              have HN7 := Lib.hid hn7
              have HT7 := Lib.hid ((Turn.of_below ((Below.refl _ _).alloc (Nat.le_refl _) (.cells #[.slice none 0 0, .slice none 0 0, .int .i64 0, .bool false] 41))).drew.trans ht7)
              refine hK.out _ _ ⟨hn7.live.below, hn7.box⟩ (fun hHeld => ?_)
              have HGE := Lib.hid (Nat.le_refl wr.heap.size)
              clear hK K hn7 ht7 hzb hg6
              refine wpAnyH_take (i := 7) (oi := { dst := Option.some 105, op := Op.move (Operand.tmp 112), type := 44, pos := "law.go:95", after := #[{ on := 6, ground := Ground.data }], guard := Option.none }) (v := .tuple #[.agg #[.slice A7 n7 c7, .slice A8 n8 c8, .int .i64 (actD d act).armed, .bool (actD d act).off], .bool true]) rfl (by kernel_rfl) (by kernel_rfl) (by kernel_rfl) (fun _ _ _ h => h) (Or.inl ⟨by rfl, ?_⟩) hHeld ?_
              · intro W hSw
                go_simp
              simp only [Act.put, List.setIfInBounds_toArray, List.set_cons_zero, List.set_cons_succ]
              refine wpAnyH_take (i := 8) (oi := { dst := Option.some 113, op := Op.extract (Operand.tmp 105) 0, type := 41, pos := "law.go:95", after := #[{ on := 7, ground := Ground.data }], guard := Option.none }) (v := .agg #[.slice A7 n7 c7, .slice A8 n8 c8, .int .i64 (actD d act).armed, .bool (actD d act).off]) rfl (by kernel_rfl) (by kernel_rfl) (by kernel_rfl) (fun _ _ _ h => h) (Or.inl ⟨by rfl, ?_⟩) hHeld ?_
              · intro W hSw
                go_simp
              simp only [Act.put, List.setIfInBounds_toArray, List.set_cons_zero, List.set_cons_succ]
              refine wpAnyH_take (i := 9) (oi := { dst := Option.some 114, op := Op.extract (Operand.tmp 105) 1, type := 4, pos := "law.go:95", after := #[{ on := 7, ground := Ground.data }, { on := 11, ground := Ground.gcOnly Departure.lateStores }], guard := Option.none }) (v := .bool true) rfl (by kernel_rfl) (by kernel_rfl) (by kernel_rfl) (fun _ _ _ h => h) (Or.inl ⟨by rfl, ?_⟩) hHeld ?_
              · intro W hSw
                go_simp
              simp only [Act.put, List.setIfInBounds_toArray, List.set_cons_zero, List.set_cons_succ]
              obtain ⟨r0, r1, r2, r3, rf⟩ : w7.cell? ⟨wr.heap.size, 0, none⟩ = some (.slice none 0 0) ∧ w7.cell? ⟨wr.heap.size, 1, none⟩ = some (.slice none 0 0) ∧ w7.cell? ⟨wr.heap.size, 2, none⟩ = some (.int .i64 0) ∧ w7.cell? ⟨wr.heap.size, 3, none⟩ = some (.bool false) ∧ ∀ j, w7.frozen? ⟨wr.heap.size, j, none⟩ = false := zero_cell HZB.out
              have f0 := rf 0
              have f1 := rf 1
              have f2 := rf 2
              have f3 := rf 3
              clear rf
              refine wpAnyH_ready (rs := [11]) (by kernel_rfl) (by simp) ?_
              refine AllReadyH.cons (o := { dst := Option.none, op := Op.store 41 (Operand.tmp 13) (Operand.tmp 113), type := 0, pos := "law.go:95", after := #[{ on := 10, ground := Ground.data }, { on := 8, ground := Ground.data }, { on := 6, ground := Ground.chain }, { on := 0, ground := Ground.phase }, { on := 1, ground := Ground.phase }, { on := 2, ground := Ground.phase }, { on := 3, ground := Ground.phase }, { on := 4, ground := Ground.phase }, { on := 5, ground := Ground.phase }, { on := 6, ground := Ground.phase }, { on := 7, ground := Ground.phase }, { on := 8, ground := Ground.phase }, { on := 9, ground := Ground.textOnly Departure.lateStores }, { on := 10, ground := Ground.phase }], guard := Option.none }) rfl (fun K hK => ?_) AllReadyH.nil
              go_simp
              have hn8 := HN7.out.set4 (q := wr.heap.size) (Or.inr rfl) (by have := bx_lt HN7.out.box; have := HBQ.out; omega) (.slice A7 n7 c7) (.slice A8 n8 c8) (.int .i64 (actD d act).armed) (.bool (actD d act).off)
              have hz8 := bx_put HZB.out (.slice A7 n7 c7) (.slice A8 n8 c8) (.int .i64 (actD d act).armed) (.bool (actD d act).off)
              refine hK.out _ _ ⟨hn8.live.below, hn8.box⟩ (fun hHeld => ?_)
              clear hK K r0 r1 r2 r3 f0 f1 f2 f3
              refine wpAnyH_take (i := 12) (oi := { dst := Option.some 14, op := Op.assign (Operand.tmp 114), type := 4, pos := "law.go:95", after := #[{ on := 9, ground := Ground.data }, { on := 11, ground := Ground.chain }, { on := 0, ground := Ground.phase }, { on := 1, ground := Ground.phase }, { on := 2, ground := Ground.phase }, { on := 3, ground := Ground.phase }, { on := 4, ground := Ground.phase }, { on := 5, ground := Ground.phase }, { on := 6, ground := Ground.phase }, { on := 7, ground := Ground.phase }, { on := 8, ground := Ground.phase }, { on := 9, ground := Ground.phase }, { on := 10, ground := Ground.phase }, { on := 11, ground := Ground.phase }], guard := Option.none }) (v := .bool true) rfl (by kernel_rfl) (by kernel_rfl) (by kernel_rfl) (fun _ _ _ h => h) (Or.inl ⟨by rfl, ?_⟩) hHeld ?_
              · intro W hSw
                go_simp
              simp only [Act.put, List.setIfInBounds_toArray, List.set_cons_zero, List.set_cons_succ]
              clear hHeld
              obtain ⟨w8, hw8⟩ : ∃ w8, w8 = ((((w7.setCell ⟨wr.heap.size, 0, none⟩ (.slice A7 n7 c7)).setCell ⟨wr.heap.size, 1, none⟩ (.slice A8 n8 c8)).setCell ⟨wr.heap.size, 2, none⟩ (.int .i64 (actD d act).armed)).setCell ⟨wr.heap.size, 3, none⟩ (.bool (actD d act).off)) := ⟨_, rfl⟩
              rw [← hw8] at hn8 hz8 ⊢
              have hk8 : ∀ k, k < wr.heap.size → ¬ S3 k → w8.heap[k]? = wr.heap[k]? := fun k h1 h2 => by rw [hw8, set4_block _ _ _ _ _ _ k (by have := HT7.out.kept.size; have := HGE.out; omega)]; exact HT7.out.kept.block k h1 h2
              have hs8 : wr.heap.size ≤ w8.heap.size := by have := HT7.out.kept.size; rw [hw8]; simpa [World.setCell] using this
              have HK8 := Lib.hid (And.intro hk8 hs8)
              clear hk8 hs8
              obtain ⟨bq, hbq⟩ : ∃ bq, bq = wr.heap.size := ⟨_, rfl⟩
              rw [← hbq] at hn8 hz8 ⊢
              clear hbq hw8
              obtain ⟨y0, y1, y2, y3, -⟩ := bx_cell (d := actD d act) hz8
              obtain ⟨x0, x1, x2, x3, xf⟩ := bx_cell hn8.box
              have g0 := xf 0
              have g1 := xf 1
              have g2 := xf 2
              have g3 := xf 3
              clear xf
              have HN8 := Lib.hid hn8
              clear hn8 hz8
              refine wpAnyH_done (by kernel_rfl) ?_ _
              go_upto_region 19 with fail
              have ht9 := HN8.out.put.fewer (Z' := (fun k => k = b)) (fun k hk => Or.inl hk) TR.out.zb
              clear y0 y1 y2 y3 x0 x1 x2 x3 g0 g1 g2 g3
              obtain ⟨w9, hw9⟩ : ∃ w9, w9 = ((((w8.setCell ⟨b, 0, none⟩ (.slice A7 n7 c7)).setCell ⟨b, 1, none⟩ (.slice A8 n8 c8)).setCell ⟨b, 2, none⟩ (.int .i64 (actD d act).armed)).setCell ⟨b, 3, none⟩ (.bool (actD d act).off)) := ⟨_, rfl⟩
              have hk9 : ∀ k, k < wr.heap.size → ¬ S3 k → k ≠ b → w9.heap[k]? = wr.heap[k]? := fun k h1 h2 h3 => by rw [hw9, set4_block _ _ _ _ _ _ k h3]; exact HK8.out.1 k h1 h2
              have hs9 : wr.heap.size ≤ w9.heap.size := by have := HK8.out.2; rw [hw9]; simpa [World.setCell] using this
              have HCH := Lib.hid (And.intro hk9 (And.intro hs9 (show ∀ k, S7 k → S3 k ∨ wr.heap.size ≤ k from HT7.out.new)))
              rw [← hw9] at ht9 ⊢
              have T9 := Lib.hid ht9
              clear ht9 hw9 hk9 hs9
              have hnL : n8 = (actD d act).L.length := T9.out.rd.l.form.elim fun _ h => h.elim fun _ h => by injection h.1
              have hdl9 : (actD d act).L.length ≤ i + 1 := Nat.le_trans (actD_lenL d act) (Nat.succ_le_succ HDL.out.1)
              have hdb9 : (actD d act).B.length = sz := (actD_len TR.out.rd.ok act).trans HDL.out.2
              have HD9 := Lib.hid (And.intro hnL (And.intro hdl9 hdb9))
              clear hnL hdl9 hdb9
              generalize hd9 : actD d act = d9 at T9 HD9
              clear hd9
              have hcd := live_down E T9.out.live.drew
              obtain ⟨o9, ho9⟩ : ∃ o9, o9 = d9.off := ⟨_, rfl⟩
              rw [← ho9] at hcd
              have HCD := Lib.hid hcd
              have HO9 := Lib.hid ho9
              have hd0 : Below w9.heap.size w9 w9.drew ∧ w9.drew.heap[b]? = some (bxo (.slice A7 n7 c7) (.slice A8 n8 c8) d9) := ⟨(Below.refl _ _).drew, T9.out.box⟩
              clear hcd ho9
              go_wp2_with fail
              refine wp_region_held_drew (S := fun W => Below w9.heap.size w9 W ∧ W.heap[b]? = some (bxo (.slice A7 n7 c7) (.slice A8 n8 c8) d9)) (by kernel_rfl) hd0 (fun hHeld => ?_)
              clear hd0
              refine wpAnyH_take (i := 0) (oi := { dst := Option.some 116, op := Op.move (Operand.tmp 14), type := 4, pos := "law.go:97", after := #[], guard := Option.none }) (v := .bool true) rfl (by kernel_rfl) (by kernel_rfl) (by kernel_rfl) (fun _ _ _ h => h) (Or.inl ⟨by rfl, ?_⟩) hHeld ?_
              · intro W hSw
                go_simp
              simp only [Act.put, List.setIfInBounds_toArray, List.set_cons_zero, List.set_cons_succ]
              refine wpAnyH_take (i := 1) (oi := { dst := Option.some 117, op := Op.unOp UnOp.not 4 (Operand.tmp 116), type := 4, pos := "law.go:97", after := #[{ on := 0, ground := Ground.data }], guard := Option.none }) (v := .bool false) rfl (by kernel_rfl) (by kernel_rfl) (by kernel_rfl) (fun _ _ _ h => h) (Or.inl ⟨by rfl, ?_⟩) hHeld ?_
              · intro W hSw
                go_simp
              simp only [Act.put, List.setIfInBounds_toArray, List.set_cons_zero, List.set_cons_succ]
              refine wpAnyH_take (i := 2) (oi := { dst := Option.some 118, op := Op.move (Operand.tmp 117), type := 4, pos := "law.go:97", after := #[{ on := 1, ground := Ground.data }], guard := Option.none }) (v := .bool false) rfl (by kernel_rfl) (by kernel_rfl) (by kernel_rfl) (fun _ _ _ h => h) (Or.inl ⟨by rfl, ?_⟩) hHeld ?_
              · intro W hSw
                go_simp
              simp only [Act.put, List.setIfInBounds_toArray, List.set_cons_zero, List.set_cons_succ]
              refine wpAnyH_take (i := 3) (oi := { dst := Option.some 119, op := Op.move (Operand.tmp 8), type := 23, pos := "law.go:97", after := #[{ on := 2, ground := Ground.guard }], guard := Option.some (2, false) }) (v := .pointer (some ⟨p, 0, none⟩)) rfl (by kernel_rfl) (by kernel_rfl) (by kernel_rfl) (fun _ _ _ h => h) (Or.inl ⟨by rfl, ?_⟩) hHeld ?_
              · intro W hSw
                go_simp
              simp only [Act.put, List.setIfInBounds_toArray, List.set_cons_zero, List.set_cons_succ]
              refine wpAnyH_take (i := 5) (oi := { dst := Option.some 121, op := Op.fieldAddr 41 (Operand.tmp 10) 3, type := 0, pos := "law.go:97", after := #[{ on := 2, ground := Ground.guard }], guard := Option.some (2, false) }) (v := .pointer (some ⟨b, 3, none⟩)) rfl (by kernel_rfl) (by kernel_rfl) (by kernel_rfl) (fun _ _ _ h => h) (Or.inl ⟨by rfl, ?_⟩) hHeld ?_
              · intro W hSw
                obtain ⟨-, -, -, y3, -⟩ := bx_cell hSw.2; rw [← HO9.out] at y3
                go_simp
              simp only [Act.put, List.setIfInBounds_toArray, List.set_cons_zero, List.set_cons_succ]
              refine wpAnyH_take (i := 6) (oi := { dst := Option.some 122, op := Op.load 4 (Operand.tmp 121), type := 4, pos := "law.go:97", after := #[{ on := 5, ground := Ground.data }, { on := 2, ground := Ground.guard }], guard := Option.some (2, false) }) (v := .bool o9) rfl (by kernel_rfl) (by kernel_rfl) (by kernel_rfl) (fun _ _ _ h => h) (Or.inl ⟨by rfl, ?_⟩) hHeld ?_
              · intro W hSw
                obtain ⟨-, -, -, y3, -⟩ := bx_cell hSw.2; rw [← HO9.out] at y3
                go_simp
              simp only [Act.put, List.setIfInBounds_toArray, List.set_cons_zero, List.set_cons_succ]
              refine wpAnyH_ready (rs := [4]) (by kernel_rfl) (by simp) ?_
              refine AllReadyH.cons (o := { dst := Option.some 120, op := Op.call { callee := Callee.value (Operand.func 14), args := #[Operand.tmp 119], argTypes := #[23] }, type := 4, pos := "law.go:97", after := #[{ on := 3, ground := Ground.data }, { on := 2, ground := Ground.chain }, { on := 2, ground := Ground.guard }], guard := Option.some (2, false) }) rfl (fun K hK => ?_) AllReadyH.nil
              go_simp
              refine HCD.out.mono ?_
              rintro y w10 ⟨rfl, h10, hb10⟩
              have hb10' : Below w9.heap.size w9 w10 := (Below.refl _ _).drew.trans hb10
              have T10 := Lib.hid (T9.out.more hb10')
              refine hK.out _ _ ⟨hb10', T10.out.box⟩ (fun hHeld => ?_)
              clear hK K h10 hb10
              have HB10 := Lib.hid hb10'
              have hcw := live_waits T10.out.live
              rw [← HD9.out.1] at hcw
              have HCW := Lib.hid hcw
              clear hb10' hcw
              refine wpAnyH_take (i := 7) (oi := { dst := Option.some 123, op := Op.binOp BinOp.neq 4 (Operand.tmp 120) (Operand.tmp 122) 4, type := 4, pos := "law.go:97", after := #[{ on := 4, ground := Ground.data }, { on := 6, ground := Ground.data }, { on := 2, ground := Ground.guard }], guard := Option.some (2, false) }) (v := .bool false) rfl (by kernel_rfl) (by kernel_rfl) (by kernel_rfl) (fun _ _ _ h => h) (Or.inl ⟨by rfl, ?_⟩) hHeld ?_
              · intro W hSw
                go_simp
              simp only [Act.put, List.setIfInBounds_toArray, List.set_cons_zero, List.set_cons_succ]
              refine wpAnyH_take (i := 8) (oi := { dst := Option.some 124, op := Op.pick (Operand.tmp 118) (Operand.const (Value.bool true)) (Operand.tmp 123), type := 4, pos := "law.go:97", after := #[{ on := 2, ground := Ground.data }, { on := 7, ground := Ground.data }], guard := Option.none }) (v := .bool false) rfl (by kernel_rfl) (by kernel_rfl) (by kernel_rfl) (fun _ _ _ h => h) (Or.inl ⟨by rfl, ?_⟩) hHeld ?_
              · intro W hSw
                go_simp
              simp only [Act.put, List.setIfInBounds_toArray, List.set_cons_zero, List.set_cons_succ]
              refine wpAnyH_take (i := 9) (oi := { dst := Option.some 125, op := Op.move (Operand.tmp 124), type := 4, pos := "law.go:97", after := #[{ on := 8, ground := Ground.data }, { on := 4, ground := Ground.chain }], guard := Option.none }) (v := .bool false) rfl (by kernel_rfl) (by kernel_rfl) (by kernel_rfl) (fun _ _ _ h => h) (Or.inl ⟨by rfl, ?_⟩) hHeld ?_
              · intro W hSw
                go_simp
              simp only [Act.put, List.setIfInBounds_toArray, List.set_cons_zero, List.set_cons_succ]
              refine wpAnyH_take (i := 10) (oi := { dst := Option.some 126, op := Op.move (Operand.tmp 8), type := 23, pos := "law.go:97", after := #[{ on := 9, ground := Ground.guard }], guard := Option.some (9, false) }) (v := .pointer (some ⟨p, 0, none⟩)) rfl (by kernel_rfl) (by kernel_rfl) (by kernel_rfl) (fun _ _ _ h => h) (Or.inl ⟨by rfl, ?_⟩) hHeld ?_
              · intro W hSw
                go_simp
              simp only [Act.put, List.setIfInBounds_toArray, List.set_cons_zero, List.set_cons_succ]
              refine wpAnyH_take (i := 12) (oi := { dst := Option.some 128, op := Op.fieldAddr 41 (Operand.tmp 10) 1, type := 0, pos := "law.go:97", after := #[{ on := 9, ground := Ground.guard }], guard := Option.some (9, false) }) (v := .pointer (some ⟨b, 1, none⟩)) rfl (by kernel_rfl) (by kernel_rfl) (by kernel_rfl) (fun _ _ _ h => h) (Or.inl ⟨by rfl, ?_⟩) hHeld ?_
              · intro W hSw
                obtain ⟨-, y1, -, -, -⟩ := bx_cell hSw.2
                go_simp
              simp only [Act.put, List.setIfInBounds_toArray, List.set_cons_zero, List.set_cons_succ]
              refine wpAnyH_take (i := 13) (oi := { dst := Option.some 129, op := Op.load 39 (Operand.tmp 128), type := 39, pos := "law.go:97", after := #[{ on := 12, ground := Ground.data }, { on := 9, ground := Ground.guard }], guard := Option.some (9, false) }) (v := .slice A8 n8 c8) rfl (by kernel_rfl) (by kernel_rfl) (by kernel_rfl) (fun _ _ _ h => h) (Or.inl ⟨by rfl, ?_⟩) hHeld ?_
              · intro W hSw
                obtain ⟨-, y1, -, -, -⟩ := bx_cell hSw.2
                go_simp
              simp only [Act.put, List.setIfInBounds_toArray, List.set_cons_zero, List.set_cons_succ]
              refine wpAnyH_take (i := 14) (oi := { dst := Option.some 130, op := Op.call { callee := Callee.builtin Builtin.len, args := #[Operand.tmp 129], argTypes := #[39] }, type := 3, pos := "law.go:97", after := #[{ on := 13, ground := Ground.data }, { on := 9, ground := Ground.guard }], guard := Option.some (9, false) }) (v := .int .i64 (n8 : Int)) rfl (by kernel_rfl) (by kernel_rfl) (by kernel_rfl) (fun _ _ _ h => h) (Or.inl ⟨by rfl, ?_⟩) hHeld ?_
              · intro W hSw
                obtain ⟨-, y1, -, -, -⟩ := bx_cell hSw.2
                go_simp
              simp only [Act.put, List.setIfInBounds_toArray, List.set_cons_zero, List.set_cons_succ]
              refine wpAnyH_ready (rs := [11]) (by kernel_rfl) (by simp) ?_
              refine AllReadyH.cons (o := { dst := Option.some 127, op := Op.call { callee := Callee.value (Operand.func 13), args := #[Operand.tmp 126], argTypes := #[23] }, type := 3, pos := "law.go:97", after := #[{ on := 10, ground := Ground.data }, { on := 9, ground := Ground.chain }, { on := 9, ground := Ground.guard }], guard := Option.some (9, false) }) rfl (fun K hK => ?_) AllReadyH.nil
              go_simp
              refine HCW.out.mono ?_
              rintro y w11 ⟨rfl, h11, hb11⟩
              have hb11' : Below w9.heap.size w9 w11 := HB10.out.trans (hb11.mono HB10.out.size)
              have T11 := Lib.hid (T9.out.more hb11')
              refine hK.out _ _ ⟨hb11', T11.out.box⟩ (fun hHeld => ?_)
              clear hK K h11 hb11
              have HB11 := Lib.hid hb11'
              have hcs := live_size E T11.out.live
              rw [HD9.out.2.2] at hcs
              have HCS := Lib.hid hcs
              clear hb11' hcs
              refine wpAnyH_take (i := 15) (oi := { dst := Option.some 131, op := Op.binOp BinOp.neq 3 (Operand.tmp 127) (Operand.tmp 130) 3, type := 4, pos := "law.go:97", after := #[{ on := 11, ground := Ground.data }, { on := 14, ground := Ground.data }, { on := 9, ground := Ground.guard }], guard := Option.some (9, false) }) (v := .bool false) rfl (by kernel_rfl) (by kernel_rfl) (by kernel_rfl) (fun _ _ _ h => h) (Or.inl ⟨by rfl, ?_⟩) hHeld ?_
              · intro W hSw
                go_simp
              simp only [Act.put, List.setIfInBounds_toArray, List.set_cons_zero, List.set_cons_succ]
              refine wpAnyH_take (i := 16) (oi := { dst := Option.some 132, op := Op.pick (Operand.tmp 125) (Operand.const (Value.bool true)) (Operand.tmp 131), type := 4, pos := "law.go:97", after := #[{ on := 9, ground := Ground.data }, { on := 15, ground := Ground.data }], guard := Option.none }) (v := .bool false) rfl (by kernel_rfl) (by kernel_rfl) (by kernel_rfl) (fun _ _ _ h => h) (Or.inl ⟨by rfl, ?_⟩) hHeld ?_
              · intro W hSw
                go_simp
              simp only [Act.put, List.setIfInBounds_toArray, List.set_cons_zero, List.set_cons_succ]
              refine wpAnyH_take (i := 17) (oi := { dst := Option.some 133, op := Op.move (Operand.tmp 132), type := 4, pos := "law.go:97", after := #[{ on := 16, ground := Ground.data }, { on := 11, ground := Ground.chain }], guard := Option.none }) (v := .bool false) rfl (by kernel_rfl) (by kernel_rfl) (by kernel_rfl) (fun _ _ _ h => h) (Or.inl ⟨by rfl, ?_⟩) hHeld ?_
              · intro W hSw
                go_simp
              simp only [Act.put, List.setIfInBounds_toArray, List.set_cons_zero, List.set_cons_succ]
              refine wpAnyH_take (i := 18) (oi := { dst := Option.some 134, op := Op.move (Operand.tmp 8), type := 23, pos := "law.go:97", after := #[{ on := 17, ground := Ground.guard }], guard := Option.some (17, false) }) (v := .pointer (some ⟨p, 0, none⟩)) rfl (by kernel_rfl) (by kernel_rfl) (by kernel_rfl) (fun _ _ _ h => h) (Or.inl ⟨by rfl, ?_⟩) hHeld ?_
              · intro W hSw
                go_simp
              simp only [Act.put, List.setIfInBounds_toArray, List.set_cons_zero, List.set_cons_succ]
              refine wpAnyH_take (i := 20) (oi := { dst := Option.some 136, op := Op.move (Operand.tmp 0), type := 3, pos := "law.go:97", after := #[{ on := 17, ground := Ground.guard }], guard := Option.some (17, false) }) (v := .int .i64 (sz : Int)) rfl (by kernel_rfl) (by kernel_rfl) (by kernel_rfl) (fun _ _ _ h => h) (Or.inl ⟨by rfl, ?_⟩) hHeld ?_
              · intro W hSw
                go_simp
              simp only [Act.put, List.setIfInBounds_toArray, List.set_cons_zero, List.set_cons_succ]
              refine wpAnyH_ready (rs := [19]) (by kernel_rfl) (by simp) ?_
              refine AllReadyH.cons (o := { dst := Option.some 135, op := Op.call { callee := Callee.value (Operand.func 12), args := #[Operand.tmp 134], argTypes := #[23] }, type := 3, pos := "law.go:97", after := #[{ on := 18, ground := Ground.data }, { on := 17, ground := Ground.chain }, { on := 17, ground := Ground.guard }], guard := Option.some (17, false) }) rfl (fun K hK => ?_) AllReadyH.nil
              go_simp
              refine HCS.out.mono ?_
              rintro y w12 ⟨rfl, h12, hb12⟩
              have hb12' : Below w9.heap.size w9 w12 := HB11.out.trans (hb12.mono HB11.out.size)
              have T12 := Lib.hid (T9.out.more hb12')
              refine hK.out _ _ ⟨hb12', T12.out.box⟩ (fun hHeld => ?_)
              clear hK K h12 hb12 hb12'
              refine wpAnyH_take (i := 21) (oi := { dst := Option.some 137, op := Op.binOp BinOp.neq 3 (Operand.tmp 135) (Operand.tmp 136) 3, type := 4, pos := "law.go:97", after := #[{ on := 19, ground := Ground.data }, { on := 20, ground := Ground.data }, { on := 17, ground := Ground.guard }], guard := Option.some (17, false) }) (v := .bool false) rfl (by kernel_rfl) (by kernel_rfl) (by kernel_rfl) (fun _ _ _ h => h) (Or.inl ⟨by rfl, ?_⟩) hHeld ?_
              · intro W hSw
                go_simp
              simp only [Act.put, List.setIfInBounds_toArray, List.set_cons_zero, List.set_cons_succ]
              refine wpAnyH_take (i := 22) (oi := { dst := Option.some 138, op := Op.pick (Operand.tmp 133) (Operand.const (Value.bool true)) (Operand.tmp 137), type := 4, pos := "law.go:97", after := #[{ on := 17, ground := Ground.data }, { on := 21, ground := Ground.data }], guard := Option.none }) (v := .bool false) rfl (by kernel_rfl) (by kernel_rfl) (by kernel_rfl) (fun _ _ _ h => h) (Or.inl ⟨by rfl, ?_⟩) hHeld ?_
              · intro W hSw
                go_simp
              simp only [Act.put, List.setIfInBounds_toArray, List.set_cons_zero, List.set_cons_succ]
              clear hHeld
              refine wpAnyH_done (by kernel_rfl) ?_ _
              go_wp2_with fail
              go_roundw
              case rel => exact ⟨i + 1, S7, A7, n7, c7, A8, n8, c8, d9, by omega, by omega, by go_num, HD9.out.2.1, T12.out, HD9.out.2.2⟩
              case measure => simp [intOf]; omega
          · have hge : ¬ ((i : Int) < (m : Int)) ∨ ((i : Int) < (m : Int) ∧ ¬ (i : Int) < 40) := by omega
            clear hlt
            rcases hge with hge | ⟨hge1, hge2⟩
            all_goals
              go_wp2_with fail
              go_meet
              exact ⟨S3, A3, n3, c3, A4, n4, c4, d, TR.out, HDL.out.2⟩
      case rest =>
        obtain ⟨S3, A3, n3, c3, A4, n4, c4, d, htw, hdb⟩ := hcut
        have TR := Lib.hid htw
        obtain ⟨Y, hY⟩ : ∃ Y, Y = readB d 0 (sz : Int) := ⟨_, rfl⟩
        obtain ⟨e, he⟩ : ∃ e, e = badE d 0 (sz : Int) := ⟨_, rfl⟩
        have hcr := fun (w' : World) (h : Twin C w w' S3 (fun k => k = b) p b (.slice A3 n3 c3) (.slice A4 n4 c4) d) => C.cRead w' S3 p d 0 (sz : Int) h.live.dk (by unfold inI; omega) (by unfold inI; omega)
        rw [← hY, ← he] at hcr
        have hrf := fun (w' : World) (h : Twin C w w' S3 (fun k => k = b) p b (.slice A3 n3 c3) (.slice A4 n4 c4) d) => RefRead_any (.slice A3 n3 c3) (.slice A4 n4 c4) d 0 (sz : Int) w' _ h.rd (by unfold inI; omega) (by unfold inI; omega)
        unfold rdv at hrf
        rw [← hY, ← he] at hrf
        have HCR := Lib.hid hcr
        have HRF := Lib.hid hrf
        clear htw hdb hY he hcr hrf
        go_upto_region 22 with (go_at_call 6; go_must (refine (HCR.out _ TR.out).mono ?_; rintro y w5 ⟨v5, rfl, hs5, hb5⟩; obtain ⟨A6, n6, c6, rfl⟩ := hs5.form; have T5 := Lib.hid (TR.out.more hb5); have HS5 := Lib.hid hs5.sl; clear hs5 hb5))
        obtain ⟨x0, x1, x2, x3, -⟩ := bx_cell T5.out.box
        go_upto_region 23 with (go_at_call 20; go_must (refine (HRF.out _ T5.out).mono ?_; rintro y w6 ⟨v6, rfl, hs6, hb6⟩; obtain ⟨A7, n7, c7, rfl⟩ := hs6.form; have T6 := Lib.hid (T5.out.more hb6); have y5 := conv_bytes (HS5.out.below hb6); have y6 := conv_bytes hs6.sl; clear hs6 hb6))
        clear x0 x1 x2 x3
        have hnum := num_ev e w6 (HS.out.below HG.out T6.out.live.below)
        have HNUM2 := Lib.hid hnum
        clear hnum
        go_wp2_with (first
          | (go_at_call 8; go_must (refine HNUM2.out.mono ?_; rintro y w7 ⟨rfl, hb7⟩; have HB7 := Lib.hid (T6.out.live.below.trans (hb7.mono T6.out.live.size)); clear hb7))
          | (go_at_call 16; go_must (refine (sure_any B _).mono ?_; rintro y w8 ⟨rfl, hb8⟩; have HB8 := Lib.hid (HB7.out.trans (hb8.mono HB7.out.size)); clear hb8)))
        go_ret
        exact ⟨rfl, HB8.out⟩

end Go.Proofs.YtlhagbcomnjnoaaDoor.pk
