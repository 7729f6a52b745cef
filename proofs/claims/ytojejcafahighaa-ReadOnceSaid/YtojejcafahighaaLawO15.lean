/-
  The law ReadOnce, over the contracts: walked.
-/
import Derived.Test.YtojejcafahighaaConQ
import Derived.Test.YtojejcafahighaaLawO14
namespace Go.Proofs.Ytojejcafahighaa.pk
open Go Go.RowKit
set_option maxRecDepth 100000

set_option maxHeartbeats 1500000 in
theorem once_true (C : ConQ) (l : List It) (A : Option Addr) (n c : Nat) (os : List Tr) (Ao : Option Addr) (no co : Nat) (w : World) (h : Its w (.slice A n c) l) (ho : Trs w (.slice Ao no co) os) :
    Calls Try.prog 3 #[.slice A n c, .slice Ao no co] w fun y w' => y = .returned (.bool true) ∧ Below w.heap.size w w' := by
  obtain ⟨hn, hnc, hcm⟩ := h.len_
  obtain ⟨hno, hoc, hom⟩ := ho.len_
  obtain ⟨W0, g5, hW0, hg5, hb0, hq5, -⟩ := one_box w (.cells #[.int .i64 50, .slice none 0 0] 26)
  have HW := Lib.hid (And.intro hW0 hg5)
  have HI := Lib.hid fun W (hW : Below w.heap.size w W) => h.below hW
  have HO := Lib.hid fun W (hW : Below w.heap.size w W) => ho.below hW
  have HN := Lib.hid (And.intro hn hno)
  have HE := Lib.hid (And.intro hb0 (And.intro hq5 (show w.heap.size ≤ g5 by omega)))
  have in1 : (n : Int) ≤ 9223372036854775807 := by omega
  have in2 : (no : Int) ≤ 9223372036854775807 := by omega
  have CS := Lib.hid fun W => sureQ C W
  have i50 : inI 50 := ⟨by decide, by decide⟩
  have H50 := Lib.hid i50
  clear h ho hn hnc hcm hno hoc hom hW0 hg5 hb0 hq5 i50
  go_enter Try.func3, Try.ntmps3
  go_upto_region 2 with fail
  rw [← HW.out.1, ← HW.out.2]
  go_wp2_with fail
  go_loopw [6, 7, 8] (fun nn oo ii wr => ∃ (i N O q : Nat) (Q : List It) (Aq : Option Addr) (cq : Nat), nn = .int .i64 (N : Int) ∧ oo = .int .i64 (O : Int) ∧ ii = .int .i64 (i : Int) ∧ Hid (i ≤ n ∧ i ≤ 40 ∧ N ≤ i ∧ O + q = N ∧ q = Q.length ∧ mayQ 50 Q = true ∧ wr.heap[g5]? = some (.cells #[.int .i64 50, .slice Aq q cq] 26 (0, 0)) ∧ NIts wr g5 (.slice Aq q cq) Q ∧ Below w.heap.size w wr)) (fun _ _ ii _ => n - (intOf ii).toNat)
  case atStart => exact ⟨0, 0, 0, 0, [], none, 0, rfl, rfl, rfl, Lib.hid ⟨Nat.zero_le _, Nat.zero_le _, Nat.le_refl _, rfl, rfl, rfl, HE.out.2.1, ⟨⟨[], RowT.nil_ _ _ _, fun j h => by simp at h⟩, fun e he => by cases he⟩, HE.out.1⟩⟩
  case round =>
    obtain ⟨i, N, O, q, Q, Aq, cq, rfl, rfl, rfl, HR⟩ := hrel
    by_cases hlt : i < n ∧ i < 40
    · obtain ⟨hlt, hl40⟩ := hlt
      have ii : (i : Int) < (n : Int) := by omega
      have i4 : (i : Int) < 40 := by omega
      have s0 : (0 : Int) ≤ (i : Int) := by omega
      have hil : i < l.length := by have := HN.out.1; omega
      obtain ⟨bk, off, rfl, -, q0, q1, q2, q3⟩ := (HI.out wr HR.out.2.2.2.2.2.2.2.2).1.at_ i hil
      obtain ⟨x, hx⟩ : ∃ x, x = l[i] := ⟨_, rfl⟩
      have hxi : x.inI := by rw [hx]; exact (HI.out w (Below.refl _ _)).2 _ (List.getElem_mem hil)
      rw [← hx] at q0 q1 q2 q3
      have HXI := Lib.hid hxi
      clear hx hxi hil
      go_upto_region 7 with fail
      obtain ⟨V1, g9, hV1, hg9, hb1, hq9, -⟩ := one_box wr (.cells #[.int .i64 x.term, .int .i64 x.round, .int .i64 x.index, .int .i64 x.token] 28)
      rw [← hV1, ← hg9]
      have HV := Lib.hid (And.intro hg9 (And.intro hb1 hq9))
      obtain ⟨z0, z1, z2, z3⟩ := cells4 hq9
      have f3 := frozen_own hq9 3
      clear hV1 hg9 hb1 hq9 q0 q1 q2 q3
      go_upto_region 8 with fail
      obtain ⟨V2, hV2⟩ : ∃ W, W = V1.setCell ⟨g9, 3, none⟩ (.int .i64 (N : Int)) := ⟨_, rfl⟩
      have hqx := set3_own (v := .int .i64 (N : Int)) HV.out.2.2
      have hb2 : Below wr.heap.size wr V2 := by rw [hV2]; exact HV.out.2.1.setCell (show wr.heap.size ≤ g9 by have := HV.out.1; omega) _
      rw [← hV2] at hqx ⊢
      have h5 := (hb2.block g5 (obj_lt HR.out.2.2.2.2.2.2.1)).trans HR.out.2.2.2.2.2.2.1
      have hNi : inI (N : Int) := by have h1 := HR.out.1; have h2 := HR.out.2.1; have h3 := HR.out.2.2.1; exact ⟨by omega, by omega⟩
      obtain ⟨x', hx'⟩ : ∃ x' : It, x' = ⟨x.term, x.round, x.index, (N : Int)⟩ := ⟨_, rfl⟩
      have e1 : x'.term = x.term := by rw [hx']
      have e2 : x'.round = x.round := by rw [hx']
      have e3 : x'.index = x.index := by rw [hx']
      have e4 : x'.token = (N : Int) := by rw [hx']
      have hx'i : x'.inI := by rw [hx']; exact ⟨HXI.out.1, HXI.out.2.1, HXI.out.2.2.1, hNi⟩
      rw [← e1, ← e2, ← e3, ← e4] at hqx
      have H2 := Lib.hid (And.intro hb2 (And.intro hqx (And.intro h5 hx'i)))
      have HX4 := Lib.hid e4
      clear hV2 hqx hb2 h5 hx' e1 e2 e3 e4 hx'i z0 z1 z2 z3 f3
      obtain ⟨x0, x1⟩ := cells2 H2.out.2.2.1
      obtain ⟨y0, y1, y2, y3⟩ := cells4 H2.out.2.1
      rcases hra : addQ 50 Q x' with ⟨qa, la, k⟩
      obtain ⟨ma, hma⟩ : ∃ m, m = la.length := ⟨_, rfl⟩
      have HAD := Lib.hid (And.intro (add_fifty (x := x') HR.out.2.2.2.2.2.1 (by have := HR.out.2.2.2.2.1; have := HR.out.2.1; have := HR.out.2.2.1; have := HR.out.2.2.2.1; omega)) (And.intro hra hma))
      have CA := Lib.hid (C.addN (x := x') (HR.out.2.2.2.2.2.2.2.1.below H2.out.1) (obj_lt H2.out.2.2.1) H50.out H2.out.2.2.2 (by have := HR.out.2.2.2.2.1; have := HR.out.2.1; have := HR.out.2.2.1; have := HR.out.2.2.2.1; omega) _ hra.symm ma hma)
      clear hra hma hNi
      go_upto_region 9 with (go_at_call 6; go_must (refine CA.out.mono ?_; rintro y V3 ⟨A1, c1, rfl, hi1, hb⟩; have H3 := Lib.hid (And.intro hi1 hb); clear hi1 hb))
      obtain ⟨V4, g10, hV4, hg10, hb4, hq10, -⟩ := one_box V3 (.cells #[.int .i64 qa, .slice A1 ma c1] 26)
      rw [← hV4, ← hg10]
      have hb24 := H3.out.2.trans (hb4.mono H3.out.2.size)
      have H4 := Lib.hid (And.intro (show Below w.heap.size w V4 from HR.out.2.2.2.2.2.2.2.2.trans ((H2.out.1.trans (hb24.mono H2.out.1.size)).mono HR.out.2.2.2.2.2.2.2.2.size)) (And.intro ((hb24.block g5 (obj_lt H2.out.2.2.1)).trans H2.out.2.2.1) (And.intro hq10 (And.intro (H3.out.1.below hb4) ((HR.out.2.2.2.2.2.2.2.1.below H2.out.1).below hb24)))))
      clear hV4 hg10 hb4 hq10 hb24 CA x0 x1 y0 y1 y2 y3
      go_cut [11, 43] (fun s11 s43 W => ∃ b : Bool, s43 = .bool b ∧ b = decide (k = 0) ∧ W = V4)
      case first =>
        rcases HAD.out.1 with ⟨he, -⟩ | he
        · rw [HAD.out.2.1] at he
          injection he with he1 he
          injection he with he2 he3
          have HK := Lib.hid he3
          rw [he3, er_zero]
          clear he1 he2 he3
          go_wp2_with fail
          go_meet
          exact ⟨true, rfl, (decide_eq_true HK.out).symm, rfl⟩
        · rw [HAD.out.2.1] at he
          injection he with he1 he
          injection he with he2 he3
          have HK := Lib.hid he3
          rw [he3, er_ne (by decide)]
          clear he1 he2 he3
          go_wp2_with fail
          go_meet
          exact ⟨false, rfl, (decide_eq_false (by rw [HK.out]; decide)).symm, rfl⟩
      obtain ⟨b43, rfl, hb43, rfl⟩ := hcut
      go_upto_if 43 with fail
      go_cut [6] (fun s6 W => ∃ (N' q' : Nat) (Q' : List It) (A' : Option Addr) (c' : Nat) (V : World), V = W ∧ s6 = .int .i64 (N' : Int) ∧ Hid (N' ≤ i + 1 ∧ O + q' = N' ∧ q' = Q'.length ∧ mayQ 50 Q' = true ∧ V.heap[g5]? = some (.cells #[.int .i64 50, .slice A' q' c'] 26 (0, 0)) ∧ NIts V g5 (.slice A' q' c') Q' ∧ Below w.heap.size w V))
      case first =>
        obtain ⟨hor, hra, hma⟩ := HAD.out
        rw [hra] at hor
        rcases hor with ⟨he, hmay⟩ | he
        · injection he with he1 he
          injection he with he2 he3
          subst he1; subst he2; subst he3
          obtain rfl : b43 = true := hb43
          obtain rfl : ma = q + 1 := by rw [hma, List.length_append, List.length_singleton, ← HR.out.2.2.2.2.1]
          have HM := Lib.hid hmay
          obtain ⟨x0, x1⟩ := cells2 H4.out.2.2.1
          obtain ⟨y0, y1⟩ := cells2 H4.out.2.1
          have f0 := frozen_own H4.out.2.1 0
          have f1 := frozen_own H4.out.2.1 1
          have iN : (N : Int) + 1 ≤ 100 := by have h1 := HR.out.2.2.1; omega
          clear hra hma hmay
          have hbS := put2_below (b := g5) (v0 := .int .i64 50) (v1 := .slice A1 (q + 1) c1) H4.out.1 HE.out.2.2
          have hqS := put2_own H4.out.2.1 (.int .i64 50) (.slice A1 (q + 1) c1)
          have heS := NIts.putN H4.out.2.2.2.1 (.int .i64 50) (.slice A1 (q + 1) c1)
          have HF := Lib.hid (And.intro hbS (And.intro hqS heS))
          clear hbS hqS heS
          go_wp2_with fail
          go_meet
          exact ⟨N + 1, q + 1, Q ++ [x'], A1, c1, _, rfl, by go_num, Lib.hid ⟨by have h1 := HR.out.2.2.1; omega, by have h1 := HR.out.2.2.2.1; omega, by rw [List.length_append, List.length_singleton, ← HR.out.2.2.2.2.1], HM.out, HF.out.2.1, HF.out.2.2, HF.out.1⟩⟩
        · injection he with he1 he
          injection he with he2 he3
          subst he1; subst he2; subst he3
          obtain rfl : b43 = false := hb43
          clear hra hma
          go_wp2_with fail
          go_meet
          exact ⟨N, q, Q, Aq, cq, _, rfl, rfl, Lib.hid ⟨by have h1 := HR.out.2.2.1; omega, HR.out.2.2.2.1, HR.out.2.2.2.2.1, HR.out.2.2.2.2.2.1, H4.out.2.1, H4.out.2.2.2.2, H4.out.1⟩⟩
      case rest =>
        obtain ⟨N', q', Q', A', c', V, rfl, rfl, HP⟩ := hcut
        clear HAD H4 H3 HV
        go_upto_if 50 with fail
        go_cut [7] (fun s7 W => ∃ (O' q2 : Nat) (Q2 : List It) (A2 : Option Addr) (c2 : Nat) (V2 : World), V2 = W ∧ s7 = .int .i64 (O' : Int) ∧ Hid (O' + q2 = N' ∧ q2 = Q2.length ∧ mayQ 50 Q2 = true ∧ V2.heap[g5]? = some (.cells #[.int .i64 50, .slice A2 q2 c2] 26 (0, 0)) ∧ NIts V2 g5 (.slice A2 q2 c2) Q2 ∧ Below w.heap.size w V2))
        case first =>
          by_cases hof : i < no
          · have io : (i : Int) < (no : Int) := by omega
            have hio : i < os.length := by have := HN.out.2; omega
            have hVB := HP.out.2.2.2.2.2.2
            obtain ⟨bo, oo, rfl, hbo, -⟩ := (HO.out V hVB).at_ i hio
            obtain ⟨tr, htr⟩ : ∃ tr, tr = os[i] := ⟨_, rfl⟩
            have HT := Lib.hid (show ∀ W, Below V.heap.size V W → W.cell? ⟨bo, oo + i * 3, none⟩ = some (.int .i64 tr.a) ∧ W.cell? ⟨bo, oo + i * 3 + 1, none⟩ = some (.int .i64 tr.b) ∧ W.cell? ⟨bo, oo + i * 3 + 2, none⟩ = some (.int .i64 tr.c) from fun W hW => by
              obtain ⟨bo', oo', e, -, t0, t1, t2⟩ := ((HO.out V hVB).below hW).at_ i hio
              injection e with e
              injection e with e1 e2
              subst e1; subst e2
              rw [← htr] at t0 t1 t2
              exact ⟨t0, t1, t2⟩)
            have s0 : (0 : Int) ≤ (i : Int) := by omega
            obtain ⟨htk, hml, hsum⟩ := take_fifty (hitQ tr.a tr.b tr.c false) HP.out.2.2.2.1
            obtain ⟨L, hL⟩ : ∃ L, L = leftT (hitQ tr.a tr.b tr.c false) Q' := ⟨_, rfl⟩
            obtain ⟨Z, hZ⟩ : ∃ Z, Z = outT (hitQ tr.a tr.b tr.c false) Q' := ⟨_, rfl⟩
            rw [← hL, ← hZ] at htk hsum
            rw [← hL] at hml
            obtain ⟨hft, hmf, hsum2⟩ := take_fifty (hitQ tr.a 0 0 true) hml
            obtain ⟨L2, hL2⟩ : ∃ L2, L2 = leftT (hitQ tr.a 0 0 true) L := ⟨_, rfl⟩
            obtain ⟨Z2, hZ2⟩ : ∃ Z2, Z2 = outT (hitQ tr.a 0 0 true) L := ⟨_, rfl⟩
            rw [← hL2, ← hZ2] at hft hsum2
            rw [← hL2] at hmf
            obtain ⟨ml, hml1⟩ : ∃ m, m = L.length := ⟨_, rfl⟩
            obtain ⟨mz, hmz1⟩ : ∃ m, m = Z.length := ⟨_, rfl⟩
            obtain ⟨ml2, hml2⟩ : ∃ m, m = L2.length := ⟨_, rfl⟩
            obtain ⟨mz2, hmz2⟩ : ∃ m, m = Z2.length := ⟨_, rfl⟩
            have hq40 : Q'.length ≤ 41 := by have h1 := HP.out.1; have h2 := HP.out.2.1; have h3 := HP.out.2.2.1; omega
            have HS2 := Lib.hid (And.intro hsum (And.intro hsum2 (And.intro hml1 (And.intro hmz1 (And.intro hml2 (And.intro hmz2 (And.intro hmf hq40)))))))
            have hall : ∀ k, k < Z.length → Q'.any (seenQ (Z.getD k 0) tr.b tr.c) = true := fun k hk => by rw [hZ] at hk ⊢; exact seen_out hk
            have HALL := Lib.hid hall
            have CTM := Lib.hid fun W g' (h : MIts W g5 g' (.slice A' q' c') Q') (h5 : g5 < W.heap.size) (hg' : g' < W.heap.size) => C.takeM h h5 hg' H50.out (by omega) _ htk.symm ml mz hml1 hmz1
            have CTN := Lib.hid fun W (h : NIts W g5 (.slice A' q' c') Q') (h5 : g5 < W.heap.size) => C.takeN' h h5 H50.out (by omega) _ htk.symm ml mz hml1 hmz1
            have CFM := Lib.hid fun A c W g' (h : MIts W g5 g' (.slice A ml c) L) (h5 : g5 < W.heap.size) (hg' : g' < W.heap.size) => C.failM h h5 hg' H50.out (by omega) _ hft.symm ml2 mz2 hml2 hmz2
            obtain ⟨x0, x1⟩ := cells2 HP.out.2.2.2.2.1
            clear hio hVB hbo htr htk hml hsum hL hZ hft hmf hsum2 hL2 hZ2 hml1 hmz1 hml2 hmz2 hq40 hall
            go_upto_region 14 with fail
            obtain ⟨U, g12, hU, hg12, hbU, hq12, -⟩ := one_box V (.cells #[.int .i64 50, .slice A' q' c'] 26)
            rw [← hU, ← hg12]
            have H5 := Lib.hid (show ∀ W, Below U.heap.size U W → W.heap[g5]? = some (.cells #[.int .i64 50, .slice A' q' c'] 26 (0, 0)) from fun W hW => (hW.block g5 (by have := obj_lt HP.out.2.2.2.2.1; have := hbU.size; omega)).trans ((hbU.block g5 (obj_lt HP.out.2.2.2.2.1)).trans HP.out.2.2.2.2.1))
            have H12 := Lib.hid (show ∀ W, Below U.heap.size U W → W.heap[g12]? = some (.cells #[.int .i64 50, .slice A' q' c'] 26 (0, 0)) from fun W hW => (hW.block g12 (obj_lt hq12)).trans hq12)
            have HT := Lib.hid fun W (hW : Below U.heap.size U W) => HT.out W (hbU.trans (hW.mono hbU.size))
            have HU := Lib.hid (And.intro (show Below w.heap.size w U from HP.out.2.2.2.2.2.2.trans (hbU.mono HP.out.2.2.2.2.2.2.size)) (And.intro (HP.out.2.2.2.2.2.1.below hbU) (show g5 < U.heap.size by have := obj_lt HP.out.2.2.2.2.1; have := hbU.size; omega)))
            clear hU hg12 hbU hq12 x0 x1
            go_cut [13, 14] (fun s13 s14 W => ∃ (gx : Nat) (A3 : Option Addr) (c3 : Nat) (A2 : Option Addr) (c2 : Nat) (V3 : World), V3 = W ∧ s13 = .pointer (some ⟨gx, 0, none⟩) ∧ s14 = .slice A2 mz c2 ∧ Hid (Below U.heap.size U V3 ∧ V3.heap[gx]? = some (.cells #[.int .i64 50, .slice A3 ml c3] 26 (0, 0)) ∧ MIts V3 g5 gx (.slice A3 ml c3) L ∧ Ints V3 (.slice A2 mz c2) Z ∧ U.heap.size ≤ gx))
            case first =>
              have hd0 : Below U.heap.size U U.drew := (Below.refl _ _).drew
              refine wp_region_held_drew (S := fun W => Below U.heap.size U W) (by kernel_rfl) hd0 (fun hHeld => ?_)
              obtain ⟨v0, hv0⟩ : ∃ V, V = U.drew := ⟨_, rfl⟩
              rw [← hv0] at hd0 hHeld ⊢
              have Kv0 := Lib.hid hd0
              clear hd0 hv0
              have E0 := Lib.hid (HU.out.2.1.below Kv0.out)
              refine wpAnyH_take (i := 0) (oi := { dst := Option.some 53, op := Op.load 26 (Operand.tmp 5), type := 26, pos := "law.go:96", after := #[], guard := Option.none }) (v := .agg #[.int .i64 50, .slice A' q' c']) rfl (by kernel_rfl) (by kernel_rfl) (by kernel_rfl) (fun _ _ _ h => h) (Or.inl ⟨by rfl, ?_⟩) hHeld ?_
              · intro W hSw
                obtain ⟨z0, z1⟩ := cells2 (H5.out _ hSw)
                go_simp
              simp only [Act.put, List.setIfInBounds_toArray, List.set_cons_zero, List.set_cons_succ]
              refine wpAnyH_take (i := 1) (oi := { dst := Option.some 54, op := Op.move (Operand.tmp 1), type := 23, pos := "law.go:96", after := #[], guard := Option.none }) (v := .slice (some ⟨bo, oo, none⟩) no co) rfl (by kernel_rfl) (by kernel_rfl) (by kernel_rfl) (fun _ _ _ h => h) (Or.inl ⟨by rfl, ?_⟩) hHeld ?_
              · intro W hSw
                obtain ⟨z0, z1, z2⟩ := HT.out _ hSw
                go_simp
              simp only [Act.put, List.setIfInBounds_toArray, List.set_cons_zero, List.set_cons_succ]
              refine wpAnyH_take (i := 2) (oi := { dst := Option.some 55, op := Op.move (Operand.tmp 8), type := 3, pos := "law.go:96", after := #[], guard := Option.none }) (v := .int .i64 (i : Int)) rfl (by kernel_rfl) (by kernel_rfl) (by kernel_rfl) (fun _ _ _ h => h) (Or.inl ⟨by rfl, ?_⟩) hHeld ?_
              · intro W hSw
                obtain ⟨z0, z1, z2⟩ := HT.out _ hSw
                go_simp
              simp only [Act.put, List.setIfInBounds_toArray, List.set_cons_zero, List.set_cons_succ]
              refine wpAnyH_take (i := 3) (oi := { dst := Option.some 56, op := Op.indexAddr 23 (Operand.tmp 54) (Operand.tmp 55), type := 0, pos := "law.go:96", after := #[{ on := 1, ground := Ground.data }, { on := 2, ground := Ground.data }], guard := Option.none }) (v := .pointer (some ⟨bo, oo + i * 3, none⟩)) rfl (by kernel_rfl) (by kernel_rfl) (by kernel_rfl) (fun _ _ _ h => h) (Or.inl ⟨by rfl, ?_⟩) hHeld ?_
              · intro W hSw
                obtain ⟨z0, z1, z2⟩ := HT.out _ hSw
                go_simp
              simp only [Act.put, List.setIfInBounds_toArray, List.set_cons_zero, List.set_cons_succ]
              refine wpAnyH_take (i := 4) (oi := { dst := Option.some 57, op := Op.indexAddr 37 (Operand.tmp 56) (Operand.const (Value.int IntKind.i64 0)), type := 0, pos := "law.go:96", after := #[{ on := 3, ground := Ground.data }], guard := Option.none }) (v := .pointer (some ⟨bo, oo + i * 3, none⟩)) rfl (by kernel_rfl) (by kernel_rfl) (by kernel_rfl) (fun _ _ _ h => h) (Or.inl ⟨by rfl, ?_⟩) hHeld ?_
              · intro W hSw
                obtain ⟨z0, z1, z2⟩ := HT.out _ hSw
                go_simp
              simp only [Act.put, List.setIfInBounds_toArray, List.set_cons_zero, List.set_cons_succ]
              refine wpAnyH_take (i := 5) (oi := { dst := Option.some 58, op := Op.load 3 (Operand.tmp 57), type := 3, pos := "law.go:96", after := #[{ on := 4, ground := Ground.data }], guard := Option.none }) (v := .int .i64 tr.a) rfl (by kernel_rfl) (by kernel_rfl) (by kernel_rfl) (fun _ _ _ h => h) (Or.inl ⟨by rfl, ?_⟩) hHeld ?_
              · intro W hSw
                obtain ⟨z0, z1, z2⟩ := HT.out _ hSw
                go_simp
              simp only [Act.put, List.setIfInBounds_toArray, List.set_cons_zero, List.set_cons_succ]
              refine wpAnyH_take (i := 6) (oi := { dst := Option.some 59, op := Op.move (Operand.tmp 1), type := 23, pos := "law.go:96", after := #[], guard := Option.none }) (v := .slice (some ⟨bo, oo, none⟩) no co) rfl (by kernel_rfl) (by kernel_rfl) (by kernel_rfl) (fun _ _ _ h => h) (Or.inl ⟨by rfl, ?_⟩) hHeld ?_
              · intro W hSw
                obtain ⟨z0, z1, z2⟩ := HT.out _ hSw
                go_simp
              simp only [Act.put, List.setIfInBounds_toArray, List.set_cons_zero, List.set_cons_succ]
              refine wpAnyH_take (i := 7) (oi := { dst := Option.some 60, op := Op.move (Operand.tmp 8), type := 3, pos := "law.go:96", after := #[], guard := Option.none }) (v := .int .i64 (i : Int)) rfl (by kernel_rfl) (by kernel_rfl) (by kernel_rfl) (fun _ _ _ h => h) (Or.inl ⟨by rfl, ?_⟩) hHeld ?_
              · intro W hSw
                obtain ⟨z0, z1, z2⟩ := HT.out _ hSw
                go_simp
              simp only [Act.put, List.setIfInBounds_toArray, List.set_cons_zero, List.set_cons_succ]
              refine wpAnyH_take (i := 8) (oi := { dst := Option.some 61, op := Op.indexAddr 23 (Operand.tmp 59) (Operand.tmp 60), type := 0, pos := "law.go:96", after := #[{ on := 6, ground := Ground.data }, { on := 7, ground := Ground.data }], guard := Option.none }) (v := .pointer (some ⟨bo, oo + i * 3, none⟩)) rfl (by kernel_rfl) (by kernel_rfl) (by kernel_rfl) (fun _ _ _ h => h) (Or.inl ⟨by rfl, ?_⟩) hHeld ?_
              · intro W hSw
                obtain ⟨z0, z1, z2⟩ := HT.out _ hSw
                go_simp
              simp only [Act.put, List.setIfInBounds_toArray, List.set_cons_zero, List.set_cons_succ]
              refine wpAnyH_take (i := 9) (oi := { dst := Option.some 62, op := Op.indexAddr 37 (Operand.tmp 61) (Operand.const (Value.int IntKind.i64 1)), type := 0, pos := "law.go:96", after := #[{ on := 8, ground := Ground.data }], guard := Option.none }) (v := .pointer (some ⟨bo, oo + i * 3 + 1, none⟩)) rfl (by kernel_rfl) (by kernel_rfl) (by kernel_rfl) (fun _ _ _ h => h) (Or.inl ⟨by rfl, ?_⟩) hHeld ?_
              · intro W hSw
                obtain ⟨z0, z1, z2⟩ := HT.out _ hSw
                go_simp
              simp only [Act.put, List.setIfInBounds_toArray, List.set_cons_zero, List.set_cons_succ]
              refine wpAnyH_take (i := 10) (oi := { dst := Option.some 63, op := Op.load 3 (Operand.tmp 62), type := 3, pos := "law.go:96", after := #[{ on := 9, ground := Ground.data }], guard := Option.none }) (v := .int .i64 tr.b) rfl (by kernel_rfl) (by kernel_rfl) (by kernel_rfl) (fun _ _ _ h => h) (Or.inl ⟨by rfl, ?_⟩) hHeld ?_
              · intro W hSw
                obtain ⟨z0, z1, z2⟩ := HT.out _ hSw
                go_simp
              simp only [Act.put, List.setIfInBounds_toArray, List.set_cons_zero, List.set_cons_succ]
              refine wpAnyH_take (i := 11) (oi := { dst := Option.some 64, op := Op.move (Operand.tmp 1), type := 23, pos := "law.go:96", after := #[], guard := Option.none }) (v := .slice (some ⟨bo, oo, none⟩) no co) rfl (by kernel_rfl) (by kernel_rfl) (by kernel_rfl) (fun _ _ _ h => h) (Or.inl ⟨by rfl, ?_⟩) hHeld ?_
              · intro W hSw
                obtain ⟨z0, z1, z2⟩ := HT.out _ hSw
                go_simp
              simp only [Act.put, List.setIfInBounds_toArray, List.set_cons_zero, List.set_cons_succ]
              refine wpAnyH_take (i := 12) (oi := { dst := Option.some 65, op := Op.move (Operand.tmp 8), type := 3, pos := "law.go:96", after := #[], guard := Option.none }) (v := .int .i64 (i : Int)) rfl (by kernel_rfl) (by kernel_rfl) (by kernel_rfl) (fun _ _ _ h => h) (Or.inl ⟨by rfl, ?_⟩) hHeld ?_
              · intro W hSw
                obtain ⟨z0, z1, z2⟩ := HT.out _ hSw
                go_simp
              simp only [Act.put, List.setIfInBounds_toArray, List.set_cons_zero, List.set_cons_succ]
              refine wpAnyH_take (i := 13) (oi := { dst := Option.some 66, op := Op.indexAddr 23 (Operand.tmp 64) (Operand.tmp 65), type := 0, pos := "law.go:96", after := #[{ on := 11, ground := Ground.data }, { on := 12, ground := Ground.data }], guard := Option.none }) (v := .pointer (some ⟨bo, oo + i * 3, none⟩)) rfl (by kernel_rfl) (by kernel_rfl) (by kernel_rfl) (fun _ _ _ h => h) (Or.inl ⟨by rfl, ?_⟩) hHeld ?_
              · intro W hSw
                obtain ⟨z0, z1, z2⟩ := HT.out _ hSw
                go_simp
              simp only [Act.put, List.setIfInBounds_toArray, List.set_cons_zero, List.set_cons_succ]
              refine wpAnyH_take (i := 14) (oi := { dst := Option.some 67, op := Op.indexAddr 37 (Operand.tmp 66) (Operand.const (Value.int IntKind.i64 2)), type := 0, pos := "law.go:96", after := #[{ on := 13, ground := Ground.data }], guard := Option.none }) (v := .pointer (some ⟨bo, oo + i * 3 + 2, none⟩)) rfl (by kernel_rfl) (by kernel_rfl) (by kernel_rfl) (fun _ _ _ h => h) (Or.inl ⟨by rfl, ?_⟩) hHeld ?_
              · intro W hSw
                obtain ⟨z0, z1, z2⟩ := HT.out _ hSw
                go_simp
              simp only [Act.put, List.setIfInBounds_toArray, List.set_cons_zero, List.set_cons_succ]
              refine wpAnyH_take (i := 15) (oi := { dst := Option.some 68, op := Op.load 3 (Operand.tmp 67), type := 3, pos := "law.go:96", after := #[{ on := 14, ground := Ground.data }], guard := Option.none }) (v := .int .i64 tr.c) rfl (by kernel_rfl) (by kernel_rfl) (by kernel_rfl) (fun _ _ _ h => h) (Or.inl ⟨by rfl, ?_⟩) hHeld ?_
              · intro W hSw
                obtain ⟨z0, z1, z2⟩ := HT.out _ hSw
                go_simp
              simp only [Act.put, List.setIfInBounds_toArray, List.set_cons_zero, List.set_cons_succ]
              refine wpAnyH_ready (rs := [16, 20]) (by kernel_rfl) (by simp) ?_
              refine AllReadyH.cons (o := { dst := Option.some 69, op := Op.call { callee := Callee.value (Operand.func 7), args := #[Operand.tmp 53, Operand.tmp 58, Operand.tmp 63, Operand.tmp 68], argTypes := #[26, 3, 3, 3] }, type := 35, pos := "law.go:96", after := #[{ on := 0, ground := Ground.data }, { on := 5, ground := Ground.data }, { on := 10, ground := Ground.data }, { on := 15, ground := Ground.data }], guard := Option.none }) rfl (fun K hK => ?_) (AllReadyH.cons (o := { dst := Option.some 13, op := Op.alloc 26, type := 0, pos := "law.go:96", after := #[], guard := Option.none }) rfl (fun K hK => ?_) AllReadyH.nil)
              rotate_left
              focus
                go_simp
                have hbz : Below U.heap.size U (v0.alloc (.cells #[.int .i64 0, .slice none 0 0] 26)) := Kv0.out.alloc Kv0.out.size _
                have hqz := heap_alloc_new v0 (.cells #[.int .i64 0, .slice none 0 0] 26)
                have nE0 := MIts.box E0.out (.cells #[.int .i64 0, .slice none 0 0] 26)
                refine hK.out _ _ hbz (fun hHeld2 => ?_)
                clear hK K hHeld
                have hHeld := hHeld2
                clear hHeld2
                obtain ⟨u1, hVA⟩ : ∃ W, W = v0.alloc (.cells #[.int .i64 0, .slice none 0 0] 26) := ⟨_, rfl⟩
                obtain ⟨gx, hgx⟩ : ∃ g, g = v0.heap.size := ⟨_, rfl⟩
                rw [← hVA] at hbz hqz nE0 hHeld ⊢
                rw [← hgx] at hqz nE0 ⊢
                have Ku1 := Lib.hid hbz
                have EG := Lib.hid (show U.heap.size ≤ gx by rw [hgx]; exact Kv0.out.size)
                have EQ := Lib.hid hqz
                have E0 := Lib.hid nE0
                clear hbz hqz nE0 hVA hgx
                refine wpAnyH_ready (rs := [16]) (by kernel_rfl) (by simp) ?_
                refine AllReadyH.cons (o := { dst := Option.some 69, op := Op.call { callee := Callee.value (Operand.func 7), args := #[Operand.tmp 53, Operand.tmp 58, Operand.tmp 63, Operand.tmp 68], argTypes := #[26, 3, 3, 3] }, type := 35, pos := "law.go:96", after := #[{ on := 0, ground := Ground.data }, { on := 5, ground := Ground.data }, { on := 10, ground := Ground.data }, { on := 15, ground := Ground.data }], guard := Option.none }) rfl (fun K hK => ?_) AllReadyH.nil
                go_simp
                refine (CTM.out _ _ E0.out (by have := Ku1.out.size; have := HU.out.2.2; omega) (obj_lt EQ.out)).mono ?_
                rintro y wF ⟨A3, c3, A2, c2, rfl, hi1, hi2, hsb⟩
                have hbz : Below U.heap.size U wF := Ku1.out.trans (hsb.mono Ku1.out.size)
                refine hK.out _ _ hbz (fun hHeld2 => ?_)
                clear hK K hHeld
                have hHeld := hHeld2
                clear hHeld2
                have KwF := Lib.hid hbz
                have mE1 := hi1
                have mE2 := hi2.n_ (obj_lt EQ.out)
                have EQ := Lib.hid ((hsb.block gx (obj_lt EQ.out)).trans EQ.out)
                have E1 := Lib.hid mE1
                clear mE1
                have E2 := Lib.hid mE2
                clear mE2
                clear hbz hsb hi1 hi2 E0
                refine wpAnyH_take (i := 17) (oi := { dst := Option.some 52, op := Op.move (Operand.tmp 69), type := 35, pos := "law.go:96", after := #[{ on := 16, ground := Ground.data }], guard := Option.none }) (v := .tuple #[.agg #[.int .i64 50, .slice A3 ml c3], .slice A2 mz c2]) rfl (by kernel_rfl) (by kernel_rfl) (by kernel_rfl) (fun _ _ _ h => h) (Or.inl ⟨by rfl, ?_⟩) hHeld ?_
                · intro W hSw
                  go_simp
                simp only [Act.put, List.setIfInBounds_toArray, List.set_cons_zero, List.set_cons_succ]
                refine wpAnyH_take (i := 18) (oi := { dst := Option.some 70, op := Op.extract (Operand.tmp 52) 0, type := 26, pos := "law.go:96", after := #[{ on := 17, ground := Ground.data }], guard := Option.none }) (v := .agg #[.int .i64 50, .slice A3 ml c3]) rfl (by kernel_rfl) (by kernel_rfl) (by kernel_rfl) (fun _ _ _ h => h) (Or.inl ⟨by rfl, ?_⟩) hHeld ?_
                · intro W hSw
                  go_simp
                simp only [Act.put, List.setIfInBounds_toArray, List.set_cons_zero, List.set_cons_succ]
                refine wpAnyH_take (i := 19) (oi := { dst := Option.some 71, op := Op.extract (Operand.tmp 52) 1, type := 34, pos := "law.go:96", after := #[{ on := 17, ground := Ground.data }, { on := 21, ground := Ground.gcOnly Departure.lateStores }], guard := Option.none }) (v := .slice A2 mz c2) rfl (by kernel_rfl) (by kernel_rfl) (by kernel_rfl) (fun _ _ _ h => h) (Or.inl ⟨by rfl, ?_⟩) hHeld ?_
                · intro W hSw
                  go_simp
                simp only [Act.put, List.setIfInBounds_toArray, List.set_cons_zero, List.set_cons_succ]
              rotate_left
              focus
                go_simp
                refine (CTN.out _ E0.out (by have := Kv0.out.size; have := HU.out.2.2; omega)).mono ?_
                rintro y v1 ⟨A3, c3, A2, c2, rfl, hi1, hi2, hsb⟩
                have hbz : Below U.heap.size U v1 := Kv0.out.trans (hsb.mono Kv0.out.size)
                refine hK.out _ _ hbz (fun hHeld2 => ?_)
                clear hK K hHeld
                have hHeld := hHeld2
                clear hHeld2
                have Kv1 := Lib.hid hbz
                have mE1 := hi1
                have mE2 := hi2.ints
                have E1 := Lib.hid mE1
                clear mE1
                have E2 := Lib.hid mE2
                clear mE2
                clear hbz hsb hi1 hi2 E0
                refine wpAnyH_take (i := 17) (oi := { dst := Option.some 52, op := Op.move (Operand.tmp 69), type := 35, pos := "law.go:96", after := #[{ on := 16, ground := Ground.data }], guard := Option.none }) (v := .tuple #[.agg #[.int .i64 50, .slice A3 ml c3], .slice A2 mz c2]) rfl (by kernel_rfl) (by kernel_rfl) (by kernel_rfl) (fun _ _ _ h => h) (Or.inl ⟨by rfl, ?_⟩) hHeld ?_
                · intro W hSw
                  go_simp
                simp only [Act.put, List.setIfInBounds_toArray, List.set_cons_zero, List.set_cons_succ]
                refine wpAnyH_take (i := 18) (oi := { dst := Option.some 70, op := Op.extract (Operand.tmp 52) 0, type := 26, pos := "law.go:96", after := #[{ on := 17, ground := Ground.data }], guard := Option.none }) (v := .agg #[.int .i64 50, .slice A3 ml c3]) rfl (by kernel_rfl) (by kernel_rfl) (by kernel_rfl) (fun _ _ _ h => h) (Or.inl ⟨by rfl, ?_⟩) hHeld ?_
                · intro W hSw
                  go_simp
                simp only [Act.put, List.setIfInBounds_toArray, List.set_cons_zero, List.set_cons_succ]
                refine wpAnyH_take (i := 19) (oi := { dst := Option.some 71, op := Op.extract (Operand.tmp 52) 1, type := 34, pos := "law.go:96", after := #[{ on := 17, ground := Ground.data }, { on := 21, ground := Ground.gcOnly Departure.lateStores }], guard := Option.none }) (v := .slice A2 mz c2) rfl (by kernel_rfl) (by kernel_rfl) (by kernel_rfl) (fun _ _ _ h => h) (Or.inl ⟨by rfl, ?_⟩) hHeld ?_
                · intro W hSw
                  go_simp
                simp only [Act.put, List.setIfInBounds_toArray, List.set_cons_zero, List.set_cons_succ]
                refine wpAnyH_ready (rs := [20]) (by kernel_rfl) (by simp) ?_
                refine AllReadyH.cons (o := { dst := Option.some 13, op := Op.alloc 26, type := 0, pos := "law.go:96", after := #[], guard := Option.none }) rfl (fun K hK => ?_) AllReadyH.nil
                go_simp
                have hbz : Below U.heap.size U (v1.alloc (.cells #[.int .i64 0, .slice none 0 0] 26)) := Kv1.out.alloc Kv1.out.size _
                have hqz := heap_alloc_new v1 (.cells #[.int .i64 0, .slice none 0 0] 26)
                have nE1 := MIts.box E1.out (.cells #[.int .i64 0, .slice none 0 0] 26)
                have nE2 := NInts.box E2.out (.cells #[.int .i64 0, .slice none 0 0] 26)
                refine hK.out _ _ hbz (fun hHeld2 => ?_)
                clear hK K hHeld
                have hHeld := hHeld2
                clear hHeld2
                obtain ⟨wF, hVA⟩ : ∃ W, W = v1.alloc (.cells #[.int .i64 0, .slice none 0 0] 26) := ⟨_, rfl⟩
                obtain ⟨gx, hgx⟩ : ∃ g, g = v1.heap.size := ⟨_, rfl⟩
                rw [← hVA] at hbz hqz nE1 nE2 hHeld ⊢
                rw [← hgx] at hqz nE1 nE2 ⊢
                have KwF := Lib.hid hbz
                have EG := Lib.hid (show U.heap.size ≤ gx by rw [hgx]; exact Kv1.out.size)
                have EQ := Lib.hid hqz
                have E1 := Lib.hid nE1
                have E2 := Lib.hid nE2
                clear hbz hqz nE1 nE2 hVA hgx
              all_goals
                obtain ⟨z0, z1⟩ := cells2 EQ.out
                have f0 := frozen_own EQ.out 0
                have f1 := frozen_own EQ.out 1
                refine wpAnyH_ready (rs := [21]) (by kernel_rfl) (by simp) ?_
                refine AllReadyH.cons (o := { dst := Option.none, op := Op.store 26 (Operand.tmp 13) (Operand.tmp 70), type := 0, pos := "law.go:96", after := #[{ on := 20, ground := Ground.data }, { on := 18, ground := Ground.data }, { on := 16, ground := Ground.chain }, { on := 0, ground := Ground.phase }, { on := 1, ground := Ground.phase }, { on := 2, ground := Ground.phase }, { on := 3, ground := Ground.phase }, { on := 4, ground := Ground.phase }, { on := 5, ground := Ground.phase }, { on := 6, ground := Ground.phase }, { on := 7, ground := Ground.phase }, { on := 8, ground := Ground.phase }, { on := 9, ground := Ground.phase }, { on := 10, ground := Ground.phase }, { on := 11, ground := Ground.phase }, { on := 12, ground := Ground.phase }, { on := 13, ground := Ground.phase }, { on := 14, ground := Ground.phase }, { on := 15, ground := Ground.phase }, { on := 16, ground := Ground.phase }, { on := 17, ground := Ground.phase }, { on := 18, ground := Ground.phase }, { on := 19, ground := Ground.textOnly Departure.lateStores }, { on := 20, ground := Ground.phase }], guard := Option.none }) rfl (fun K hK => ?_) AllReadyH.nil
                go_simp
                obtain ⟨WS, hWS⟩ : ∃ W, W = put2 wF gx (.int .i64 50) (.slice A3 ml c3) := ⟨_, rfl⟩
                have hbS := put2_below (b := gx) (v0 := .int .i64 50) (v1 := .slice A3 ml c3) KwF.out EG.out
                have hqS := put2_own EQ.out (.int .i64 50) (.slice A3 ml c3)
                have heS := MIts.put E1.out (.int .i64 50) (.slice A3 ml c3)
                have hzS := NInts.put E2.out (.int .i64 50) (.slice A3 ml c3)
                rw [← hWS] at hbS hqS heS hzS
                unfold put2 at hWS
                rw [← hWS]
                refine hK.out _ _ hbS (fun hHeld2 => ?_)
                clear hK K hHeld
                have hHeld := hHeld2
                clear hHeld2 hWS z0 z1 f0 f1
                refine wpAnyH_take (i := 22) (oi := { dst := Option.some 14, op := Op.assign (Operand.tmp 71), type := 34, pos := "law.go:96", after := #[{ on := 19, ground := Ground.data }, { on := 21, ground := Ground.chain }, { on := 0, ground := Ground.phase }, { on := 1, ground := Ground.phase }, { on := 2, ground := Ground.phase }, { on := 3, ground := Ground.phase }, { on := 4, ground := Ground.phase }, { on := 5, ground := Ground.phase }, { on := 6, ground := Ground.phase }, { on := 7, ground := Ground.phase }, { on := 8, ground := Ground.phase }, { on := 9, ground := Ground.phase }, { on := 10, ground := Ground.phase }, { on := 11, ground := Ground.phase }, { on := 12, ground := Ground.phase }, { on := 13, ground := Ground.phase }, { on := 14, ground := Ground.phase }, { on := 15, ground := Ground.phase }, { on := 16, ground := Ground.phase }, { on := 17, ground := Ground.phase }, { on := 18, ground := Ground.phase }, { on := 19, ground := Ground.phase }, { on := 20, ground := Ground.phase }, { on := 21, ground := Ground.phase }], guard := Option.none }) (v := .slice A2 mz c2) rfl (by kernel_rfl) (by kernel_rfl) (by kernel_rfl) (fun _ _ _ h => h) (Or.inl ⟨by rfl, ?_⟩) hHeld ?_
                · intro W hSw
                  go_simp
                simp only [Act.put, List.setIfInBounds_toArray, List.set_cons_zero, List.set_cons_succ]
                clear hHeld
                have HR2 := Lib.hid (And.intro hbS (And.intro hqS (And.intro heS (And.intro hzS EG.out))))
                clear hbS hqS heS hzS
                refine wpAnyH_done (by kernel_rfl) ?_ _
                go_wp2_with fail
                go_meet
                exact ⟨gx, A3, c3, A2, c2, _, rfl, rfl, rfl, HR2⟩
            case rest =>
              obtain ⟨gx, A3, c3, A2, c2, V3, rfl, rfl, rfl, HX⟩ := hcut
              have hU3 := HX.out.1
              have HL := Lib.hid (show ∀ W, Below V3.heap.size V3 W → (W.cell? ⟨g12, 0, none⟩ = some (.int .i64 50) ∧ W.cell? ⟨g12, 1, none⟩ = some (.slice A' q' c')) ∧ Its W (.slice A' q' c') Q' ∧ Ints W (.slice A2 mz c2) Z ∧ (W.cell? ⟨bo, oo + i * 3, none⟩ = some (.int .i64 tr.a) ∧ W.cell? ⟨bo, oo + i * 3 + 1, none⟩ = some (.int .i64 tr.b) ∧ W.cell? ⟨bo, oo + i * 3 + 2, none⟩ = some (.int .i64 tr.c)) from fun W hW => ⟨cells2 (H12.out W (hU3.trans (hW.mono hU3.size))), ((HU.out.2.1.its).below hU3).below hW, HX.out.2.2.2.1.below hW, HT.out W (hU3.trans (hW.mono hU3.size))⟩)
              have iz : (mz : Int) ≤ 41 := by have h1 := HS2.out.1; have h2 := HS2.out.2.2.2.1; have h3 := HS2.out.2.2.2.2.2.2.2; omega
              have iz2 : (mz2 : Int) ≤ 41 := by have h1 := HS2.out.1; have h2 := HS2.out.2.1; have h4 := HS2.out.2.2.2.2.2.1; have h3 := HS2.out.2.2.2.2.2.2.2; omega
              have iq : (q' : Int) ≤ 41 := by have h1 := HP.out.2.2.1; have h3 := HS2.out.2.2.2.2.2.2.2; omega
              have iO : (O : Int) ≤ 41 := by have h1 := HP.out.2.1; have h2 := HP.out.1; omega
              clear hU3
              go_wp2_with fail
              go_loopw [15] (fun kk wr => ∃ k : Nat, k ≤ mz ∧ kk = .int .i64 (k : Int) ∧ Below V3.heap.size V3 wr) (fun kk _ => mz - (intOf kk).toNat)
              case atStart => exact ⟨0, Nat.zero_le _, rfl, Below.refl _ _⟩
              case round =>
                rename_i wk
                obtain ⟨k, hk, rfl, hb3⟩ := hrel
                by_cases hkz : k < mz
                · have ik : (k : Int) < (mz : Int) := by omega
                  have sk : (0 : Int) ≤ (k : Int) := by omega
                  have hz := HALL.out k (by rw [← HS2.out.2.2.2.1]; exact hkz)
                  obtain ⟨z, hzz⟩ : ∃ z, z = Z.getD k 0 := ⟨_, rfl⟩
                  rw [← hzz] at hz
                  obtain ⟨bz, oz, rfl, hbz, hcz⟩ := (HL.out V3 (Below.refl _ _)).2.2.1.at_.2.2.2 (by omega)
                  have HZC := Lib.hid (show ∀ W, Below V3.heap.size V3 W → W.cell? ⟨bz, oz + k, none⟩ = some (.int .i64 z) from fun W hW => (hW.cell (p := ⟨bz, oz + k, none⟩) hbz).trans (by rw [hzz]; exact hcz k hkz))
                  have HZA := Lib.hid hz
                  have HB3 := Lib.hid hb3
                  clear hz hzz hbz hcz hb3
                  go_wp2_with fail
                  go_loopw [16, 17] (fun bb jj wr => ∃ (b : Bool) (j : Nat), bb = .bool b ∧ jj = .int .i64 (j : Int) ∧ j ≤ q' ∧ Hid (b = (Q'.take j).any (seenQ z tr.b tr.c)) ∧ Below V3.heap.size V3 wr) (fun _ jj _ => q' - (intOf jj).toNat)
                  case atStart => exact ⟨false, 0, rfl, rfl, Nat.zero_le _, Lib.hid rfl, HB3.out⟩
                  case round =>
                    obtain ⟨b, j, rfl, rfl, hj, hb, hbj⟩ := hrel
                    have HBJ := Lib.hid hbj
                    obtain ⟨⟨x0, x1⟩, hits, -, t0, t1, t2⟩ := HL.out _ hbj
                    have u0 := HZC.out _ hbj
                    by_cases hjq : j < q'
                    · have ij : (j : Int) < (q' : Int) := by omega
                      have sj : (0 : Int) ≤ (j : Int) := by omega
                      have hjl : j < Q'.length := by have := HP.out.2.2.1; omega
                      obtain ⟨bq, oq, rfl, -, y0, y1, y2, y3⟩ := hits.1.at_ j hjl
                      obtain ⟨x2, hx2⟩ : ∃ x2, x2 = Q'[j] := ⟨_, rfl⟩
                      have hany := any_more (p := seenQ z tr.b tr.c) hjl
                      rw [← hx2, ← hb.out] at hany
                      rw [← hx2] at y0 y1 y2 y3
                      have HANY := Lib.hid hany
                      clear hany hx2 hits hbj hb hjl
                      cases b with
                      | true =>
                        go_wp2_with fail
                        go_quiet (fail)
                        go_wp2_with fail
                        go_roundw
                        case rel => exact ⟨true, j + 1, rfl, by go_num, by omega, Lib.hid (by rw [HANY.out]; rfl), below_drawn HBJ.out _⟩
                        case measure => simp [intOf]; omega
                      | false =>
                        by_cases c1 : x2.token = z
                        · by_cases c2 : x2.round ≤ tr.b
                          · by_cases c3 : x2.index ≤ tr.c
                            · have HS9 := Lib.hid (show seenQ z tr.b tr.c x2 = true by unfold seenQ; simp [c1, c2, c3])
                              go_wp2_with fail
                              go_quiet (fail)
                              go_wp2_with fail
                              go_roundw
                              case rel => exact ⟨true, j + 1, rfl, by go_num, by omega, Lib.hid (by rw [HANY.out, HS9.out]; rfl), below_drawn HBJ.out _⟩
                              case measure => simp [intOf]; omega
                            · have HS9 := Lib.hid (show seenQ z tr.b tr.c x2 = false by unfold seenQ; simp [c3])
                              have d3 : decide (x2.index ≤ tr.c) = false := decide_eq_false c3
                              go_wp2_with fail
                              go_quiet (fail)
                              go_wp2_with fail
                              go_roundw
                              case rel => exact ⟨false, j + 1, rfl, by go_num, by omega, Lib.hid (by rw [HANY.out, HS9.out]; rfl), below_drawn HBJ.out _⟩
                              case measure => simp [intOf]; omega
                          · have HS9 := Lib.hid (show seenQ z tr.b tr.c x2 = false by unfold seenQ; simp [c2])
                            have d2 : decide (x2.round ≤ tr.b) = false := decide_eq_false c2
                            go_wp2_with fail
                            go_quiet (fail)
                            go_wp2_with fail
                            go_roundw
                            case rel => exact ⟨false, j + 1, rfl, by go_num, by omega, Lib.hid (by rw [HANY.out, HS9.out]; rfl), below_drawn HBJ.out _⟩
                            case measure => simp [intOf]; omega
                        · have HS9 := Lib.hid (show seenQ z tr.b tr.c x2 = false by unfold seenQ; simp [c1])
                          have c1b : (x2.token == z) = false := by rw [beq_eq_false_iff_ne]; exact c1
                          go_wp2_with fail
                          go_quiet (fail)
                          go_wp2_with fail
                          go_roundw
                          case rel => exact ⟨false, j + 1, rfl, by go_num, by omega, Lib.hid (by rw [HANY.out, HS9.out]; rfl), below_drawn HBJ.out _⟩
                          case measure => simp [intOf]; omega
                    · have hjl : Q'.length ≤ j := by have := HP.out.2.2.1; omega
                      have hbt := hb.out
                      rw [List.take_of_length_le hjl, HZA.out] at hbt
                      subst hbt
                      have ij : ¬ (j : Int) < (q' : Int) := by omega
                      clear hits hb hjl
                      go_wp2_with fail
                      go_roundw
                      case rel => exact ⟨k + 1, by omega, by go_num, HBJ.out⟩
                      case measure => simp [intOf]; omega
                · obtain rfl : k = mz := by omega
                  have ik : ¬ (k : Int) < (k : Int) := by omega
                  have hd0 : Below U.heap.size U wr.drew := (HX.out.1.trans (hb3.mono HX.out.1.size)).drew
                  have EG := Lib.hid HX.out.2.2.2.2
                  have EQ0 := Lib.hid ((hb3.block gx (obj_lt HX.out.2.1)).trans HX.out.2.1)
                  have E0 := Lib.hid (HX.out.2.2.1.below hb3)
                  clear hb3
                  go_upto_region 25 with fail
                  refine wp_region_held_drew (S := fun W => Below U.heap.size U W) (by kernel_rfl) hd0 (fun hHeld => ?_)
                  have hq0 : wr.drew.heap[gx]? = some (.cells #[.int .i64 50, .slice A3 ml c3] 26 (0, 0)) := EQ0.out
                  have he0 := E0.out.below (Below.refl wr.heap.size wr).drew
                  obtain ⟨v0, hv0⟩ : ∃ V, V = wr.drew := ⟨_, rfl⟩
                  rw [← hv0] at hd0 hHeld hq0 he0 ⊢
                  have Kv0 := Lib.hid hd0
                  have EQ := Lib.hid hq0
                  have E1 := Lib.hid he0
                  clear hd0 hv0 hq0 he0 EQ0 E0
                  refine wpAnyH_take (i := 1) (oi := { dst := Option.some 131, op := Op.move (Operand.tmp 1), type := 23, pos := "law.go:106", after := #[], guard := Option.none }) (v := .slice (some ⟨bo, oo, none⟩) no co) rfl (by kernel_rfl) (by kernel_rfl) (by kernel_rfl) (fun _ _ _ h => h) (Or.inl ⟨by rfl, ?_⟩) hHeld ?_
                  · intro W hSw
                    obtain ⟨z0, z1, z2⟩ := HT.out _ hSw
                    go_simp
                  simp only [Act.put, List.setIfInBounds_toArray, List.set_cons_zero, List.set_cons_succ]
                  refine wpAnyH_take (i := 2) (oi := { dst := Option.some 132, op := Op.move (Operand.tmp 8), type := 3, pos := "law.go:106", after := #[], guard := Option.none }) (v := .int .i64 (i : Int)) rfl (by kernel_rfl) (by kernel_rfl) (by kernel_rfl) (fun _ _ _ h => h) (Or.inl ⟨by rfl, ?_⟩) hHeld ?_
                  · intro W hSw
                    obtain ⟨z0, z1, z2⟩ := HT.out _ hSw
                    go_simp
                  simp only [Act.put, List.setIfInBounds_toArray, List.set_cons_zero, List.set_cons_succ]
                  refine wpAnyH_take (i := 3) (oi := { dst := Option.some 133, op := Op.indexAddr 23 (Operand.tmp 131) (Operand.tmp 132), type := 0, pos := "law.go:106", after := #[{ on := 1, ground := Ground.data }, { on := 2, ground := Ground.data }], guard := Option.none }) (v := .pointer (some ⟨bo, oo + i * 3, none⟩)) rfl (by kernel_rfl) (by kernel_rfl) (by kernel_rfl) (fun _ _ _ h => h) (Or.inl ⟨by rfl, ?_⟩) hHeld ?_
                  · intro W hSw
                    obtain ⟨z0, z1, z2⟩ := HT.out _ hSw
                    go_simp
                  simp only [Act.put, List.setIfInBounds_toArray, List.set_cons_zero, List.set_cons_succ]
                  refine wpAnyH_take (i := 4) (oi := { dst := Option.some 134, op := Op.indexAddr 37 (Operand.tmp 133) (Operand.const (Value.int IntKind.i64 0)), type := 0, pos := "law.go:106", after := #[{ on := 3, ground := Ground.data }], guard := Option.none }) (v := .pointer (some ⟨bo, oo + i * 3, none⟩)) rfl (by kernel_rfl) (by kernel_rfl) (by kernel_rfl) (fun _ _ _ h => h) (Or.inl ⟨by rfl, ?_⟩) hHeld ?_
                  · intro W hSw
                    obtain ⟨z0, z1, z2⟩ := HT.out _ hSw
                    go_simp
                  simp only [Act.put, List.setIfInBounds_toArray, List.set_cons_zero, List.set_cons_succ]
                  refine wpAnyH_take (i := 5) (oi := { dst := Option.some 135, op := Op.load 3 (Operand.tmp 134), type := 3, pos := "law.go:106", after := #[{ on := 4, ground := Ground.data }], guard := Option.none }) (v := .int .i64 tr.a) rfl (by kernel_rfl) (by kernel_rfl) (by kernel_rfl) (fun _ _ _ h => h) (Or.inl ⟨by rfl, ?_⟩) hHeld ?_
                  · intro W hSw
                    obtain ⟨z0, z1, z2⟩ := HT.out _ hSw
                    go_simp
                  simp only [Act.put, List.setIfInBounds_toArray, List.set_cons_zero, List.set_cons_succ]
                  refine wpAnyH_ready (rs := [0]) (by kernel_rfl) (by simp) ?_
                  refine AllReadyH.cons (o := { dst := Option.some 130, op := Op.load 26 (Operand.tmp 13), type := 26, pos := "law.go:106", after := #[], guard := Option.none }) rfl (fun K hK => ?_) AllReadyH.nil
                  obtain ⟨q0, q1⟩ := cells2 EQ.out
                  go_simp
                  refine hK.out _ _ Kv0.out (fun hHeld2 => ?_)
                  clear hK K hHeld
                  have hHeld := hHeld2
                  clear hHeld2 q0 q1
                  refine wpAnyH_ready (rs := [6]) (by kernel_rfl) (by simp) ?_
                  refine AllReadyH.cons (o := { dst := Option.some 136, op := Op.call { callee := Callee.value (Operand.func 8), args := #[Operand.tmp 130, Operand.tmp 135], argTypes := #[26, 3] }, type := 35, pos := "law.go:106", after := #[{ on := 0, ground := Ground.data }, { on := 5, ground := Ground.data }], guard := Option.none }) rfl (fun K hK => ?_) AllReadyH.nil
                  go_simp
                  refine (CFM.out _ _ _ _ E1.out (by have := Kv0.out.size; have := HU.out.2.2; omega) (obj_lt EQ.out)).mono ?_
                  rintro y wF ⟨A5, c5, A6, c6, rfl, hi1, hi2, hsb⟩
                  have hbz : Below U.heap.size U wF := Kv0.out.trans (hsb.mono Kv0.out.size)
                  refine hK.out _ _ hbz (fun hHeld2 => ?_)
                  clear hK K hHeld
                  have hHeld := hHeld2
                  clear hHeld2
                  have KwF := Lib.hid hbz
                  have mE1 := hi1
                  have mE2 := hi2.ints
                  have EQ := Lib.hid ((hsb.block gx (obj_lt EQ.out)).trans EQ.out)
                  have E1 := Lib.hid mE1
                  clear mE1
                  have E2 := Lib.hid mE2
                  clear mE2
                  clear hbz hsb hi1 hi2
                  refine wpAnyH_take (i := 7) (oi := { dst := Option.some 129, op := Op.move (Operand.tmp 136), type := 35, pos := "law.go:106", after := #[{ on := 6, ground := Ground.data }], guard := Option.none }) (v := .tuple #[.agg #[.int .i64 50, .slice A5 ml2 c5], .slice A6 mz2 c6]) rfl (by kernel_rfl) (by kernel_rfl) (by kernel_rfl) (fun _ _ _ h => h) (Or.inl ⟨by rfl, ?_⟩) hHeld ?_
                  · intro W hSw
                    go_simp
                  simp only [Act.put, List.setIfInBounds_toArray, List.set_cons_zero, List.set_cons_succ]
                  refine wpAnyH_take (i := 8) (oi := { dst := Option.some 137, op := Op.extract (Operand.tmp 129) 0, type := 26, pos := "law.go:106", after := #[{ on := 7, ground := Ground.data }], guard := Option.none }) (v := .agg #[.int .i64 50, .slice A5 ml2 c5]) rfl (by kernel_rfl) (by kernel_rfl) (by kernel_rfl) (fun _ _ _ h => h) (Or.inl ⟨by rfl, ?_⟩) hHeld ?_
                  · intro W hSw
                    go_simp
                  simp only [Act.put, List.setIfInBounds_toArray, List.set_cons_zero, List.set_cons_succ]
                  refine wpAnyH_take (i := 9) (oi := { dst := Option.some 138, op := Op.extract (Operand.tmp 129) 1, type := 34, pos := "law.go:106", after := #[{ on := 7, ground := Ground.data }, { on := 10, ground := Ground.gcOnly Departure.lateStores }], guard := Option.none }) (v := .slice A6 mz2 c6) rfl (by kernel_rfl) (by kernel_rfl) (by kernel_rfl) (fun _ _ _ h => h) (Or.inl ⟨by rfl, ?_⟩) hHeld ?_
                  · intro W hSw
                    go_simp
                  simp only [Act.put, List.setIfInBounds_toArray, List.set_cons_zero, List.set_cons_succ]
                  obtain ⟨z0, z1⟩ := cells2 EQ.out
                  have f0 := frozen_own EQ.out 0
                  have f1 := frozen_own EQ.out 1
                  refine wpAnyH_ready (rs := [10]) (by kernel_rfl) (by simp) ?_
                  refine AllReadyH.cons (o := { dst := Option.none, op := Op.store 26 (Operand.tmp 13) (Operand.tmp 137), type := 0, pos := "law.go:106", after := #[{ on := 8, ground := Ground.data }, { on := 6, ground := Ground.chain }, { on := 0, ground := Ground.phase }, { on := 1, ground := Ground.phase }, { on := 2, ground := Ground.phase }, { on := 3, ground := Ground.phase }, { on := 4, ground := Ground.phase }, { on := 5, ground := Ground.phase }, { on := 6, ground := Ground.phase }, { on := 7, ground := Ground.phase }, { on := 8, ground := Ground.phase }, { on := 9, ground := Ground.textOnly Departure.lateStores }], guard := Option.none }) rfl (fun K hK => ?_) AllReadyH.nil
                  go_simp
                  obtain ⟨WS, hWS⟩ : ∃ W, W = put2 wF gx (.int .i64 50) (.slice A5 ml2 c5) := ⟨_, rfl⟩
                  have hbS := put2_below (b := gx) (v0 := .int .i64 50) (v1 := .slice A5 ml2 c5) KwF.out EG.out
                  have hqS := put2_own EQ.out (.int .i64 50) (.slice A5 ml2 c5)
                  have heS := MIts.put E1.out (.int .i64 50) (.slice A5 ml2 c5)
                  rw [← hWS] at hbS hqS heS
                  unfold put2 at hWS
                  rw [← hWS]
                  refine hK.out _ _ hbS (fun hHeld2 => ?_)
                  clear hK K hHeld
                  have hHeld := hHeld2
                  clear hHeld2 hWS z0 z1 f0 f1
                  refine wpAnyH_take (i := 11) (oi := { dst := Option.some 18, op := Op.assign (Operand.tmp 138), type := 34, pos := "law.go:106", after := #[{ on := 9, ground := Ground.data }, { on := 10, ground := Ground.chain }, { on := 0, ground := Ground.phase }, { on := 1, ground := Ground.phase }, { on := 2, ground := Ground.phase }, { on := 3, ground := Ground.phase }, { on := 4, ground := Ground.phase }, { on := 5, ground := Ground.phase }, { on := 6, ground := Ground.phase }, { on := 7, ground := Ground.phase }, { on := 8, ground := Ground.phase }, { on := 9, ground := Ground.phase }, { on := 10, ground := Ground.phase }], guard := Option.none }) (v := .slice A6 mz2 c6) rfl (by kernel_rfl) (by kernel_rfl) (by kernel_rfl) (fun _ _ _ h => h) (Or.inl ⟨by rfl, ?_⟩) hHeld ?_
                  · intro W hSw
                    go_simp
                  simp only [Act.put, List.setIfInBounds_toArray, List.set_cons_zero, List.set_cons_succ]
                  clear hHeld
                  have h5S := H5.out WS hbS
                  obtain ⟨x0, x1⟩ := cells2 hqS
                  obtain ⟨y0, y1⟩ := cells2 h5S
                  have f0 := frozen_own h5S 0
                  have f1 := frozen_own h5S 1
                  have HF := Lib.hid (And.intro (put2_below (b := g5) (v0 := .int .i64 50) (v1 := .slice A5 ml2 c5) (HU.out.1.trans (hbS.mono HU.out.1.size)) HE.out.2.2) (And.intro (put2_own h5S (.int .i64 50) (.slice A5 ml2 c5)) (NIts.putN (MIts.n_ heS) (.int .i64 50) (.slice A5 ml2 c5))))
                  clear hbS hqS heS h5S
                  refine wpAnyH_done (by kernel_rfl) ?_ _
                  go_wp2_with fail
                  go_meet
                  exact ⟨O + k + mz2, ml2, L2, A5, c5, _, rfl, by go_num, Lib.hid ⟨by have h1 := HS2.out.1; have h2 := HS2.out.2.1; have h3 := HS2.out.2.2.1; have h4 := HS2.out.2.2.2.1; have h5 := HS2.out.2.2.2.2.1; have h6 := HS2.out.2.2.2.2.2.1; have h7 := HP.out.2.1; have h8 := HP.out.2.2.1; omega, HS2.out.2.2.2.2.1, HS2.out.2.2.2.2.2.2.1, HF.out.2.1, HF.out.2.2, HF.out.1⟩⟩
          · have io : ¬ (i : Int) < (no : Int) := by omega
            go_wp2_with fail
            go_meet
            exact ⟨O, q', Q', A', c', _, rfl, rfl, Lib.hid ⟨HP.out.2.1, HP.out.2.2.1, HP.out.2.2.2.1, HP.out.2.2.2.2.1, HP.out.2.2.2.2.2.1, HP.out.2.2.2.2.2.2⟩⟩
        case rest =>
          obtain ⟨O', q2, Q2, A2, c2, V3, rfl, rfl, HZ⟩ := hcut
          obtain ⟨x0, x1⟩ := cells2 HZ.out.2.2.2.1
          have hsum : (O' : Int) + (q2 : Int) = (N' : Int) := by have := HZ.out.1; omega
          have in3 : (N' : Int) ≤ 41 := by have := HP.out.1; omega
          have in4 : (q2 : Int) ≤ 41 := by omega
          have in5 : (O' : Int) ≤ 41 := by omega
          go_wp2_with fail
          go_roundw
          case rel => exact ⟨i + 1, N', O', q2, Q2, A2, c2, rfl, rfl, by go_num, Lib.hid ⟨by omega, by omega, HP.out.1, HZ.out.1, HZ.out.2.1, HZ.out.2.2.1, HZ.out.2.2.2.1, HZ.out.2.2.2.2.1, HZ.out.2.2.2.2.2⟩⟩
          case measure => simp [intOf]; omega
    · have hor : ¬ (i : Int) < (n : Int) ∨ ((i : Int) < (n : Int) ∧ ¬ (i : Int) < 40) := by omega
      have HB := Lib.hid HR.out.2.2.2.2.2.2.2.2
      clear hlt
      rcases hor with h1 | ⟨h1, h2⟩
      all_goals
        go_wp2_with (go_at_call 9; go_must (refine (CS.out _).mono ?_; rintro y w9 ⟨rfl, hb9⟩; have H9 := Lib.hid hb9; clear hb9))
        go_ret
        exact ⟨rfl, HB.out.trans (H9.out.mono HB.out.size)⟩

end Go.Proofs.Ytojejcafahighaa.pk
