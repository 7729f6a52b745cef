/-
  The document's own Records and Room: walked.
-/
import Derived.Test.YthcikgbnenfjpaaDoorPureV
import Derived.Test.YthcikgbnenfjpaaDoorLists
import Derived.Test.YthcikgbnenfjpaaDoorLit
import Derived.Deep.QuietTactic
import Derived.BigQuiet
import Derived.IntWalk
import Derived.Outline
namespace Go.Proofs.YthcikgbnenfjpaaDoor.pk
open Go Go.RowKit
set_option maxRecDepth 100000

/-- What Records answers. -/
def RecP (T : Nat → Prop) (A : List UInt8) (w : World) (y : Ending) (w' : World) : Prop := Below w.heap.size w w' ∧ match readT A with
      | none => y = .returned (.tuple #[.slice none 0 0, .int .i64 0, .int .i64 14])
      | some (l, k) => ∃ v, y = .returned (.tuple #[v, .int .i64 (k : Int), .int .i64 0]) ∧ OwnL w' w.heap.size T v l
theorem RecP.yes {T : Nat → Prop} {A : List UInt8} {w w' : World} {l : List (List UInt8)} {k : Nat} {v : Value} (h : readT A = some (l, k)) (ho : OwnL w' w.heap.size T v l) (hb : Below w.heap.size w w') : RecP T A w (.returned (.tuple #[v, .int .i64 (k : Int), .int .i64 0])) w' :=
  ⟨hb, by rw [h]; exact ⟨v, rfl, ho⟩⟩
theorem RecP.no {T : Nat → Prop} {A : List UInt8} {w w' : World} (h : readT A = none) (hb : Below w.heap.size w w') : RecP T A w (.returned (.tuple #[.slice none 0 0, .int .i64 0, .int .i64 14])) w' :=
  ⟨hb, by rw [h]⟩
theorem numL_at {A : List UInt8} {u : Nat} (h : u + 5 ≤ A.length) : numL ((A.drop (u + 1)).take 4) = (A.getD (u + 1) 0).toNat * 16777216 + (A.getD (u + 2) 0).toNat * 65536 + (A.getD (u + 3) 0).toNat * 256 + (A.getD (u + 4) 0).toNat := by
  have e : (A.drop (u + 1)).take 4 = [A.getD (u + 1) 0, A.getD (u + 2) 0, A.getD (u + 3) 0, A.getD (u + 4) 0] := by
    refine List.ext_getElem? fun j => ?_
    rw [List.getElem?_take]
    by_cases hj : j < 4
    · rw [if_pos hj, List.getElem?_drop, List.getElem?_eq_getElem (by omega)]
      have : j = 0 ∨ j = 1 ∨ j = 2 ∨ j = 3 := by omega
      rcases this with rfl | rfl | rfl | rfl <;> simp [List.getD, List.getElem?_eq_getElem (show u + 1 < A.length by omega), List.getElem?_eq_getElem (show u + 2 < A.length by omega), List.getElem?_eq_getElem (show u + 3 < A.length by omega), List.getElem?_eq_getElem (show u + 4 < A.length by omega)]
    · rw [if_neg hj, List.getElem?_eq_none (by simp; omega)]
  rw [e, numL_four]
  rfl

theorem four_wrap (a b c e : Nat) (h1 : a < 256) (h2 : b < 256) (h3 : c < 256) (h4 : e < 256) :
    IntKind.i64.wrap ((a : Int) * 16777216) = (a : Int) * 16777216 ∧ IntKind.i64.wrap ((b : Int) * 65536) = (b : Int) * 65536 ∧ IntKind.i64.wrap ((c : Int) * 256) = (c : Int) * 256 ∧
    IntKind.i64.wrap ((a : Int) * 16777216 + (b : Int) * 65536) = (a : Int) * 16777216 + (b : Int) * 65536 ∧
    IntKind.i64.wrap ((a : Int) * 16777216 + (b : Int) * 65536 + (c : Int) * 256) = (a : Int) * 16777216 + (b : Int) * 65536 + (c : Int) * 256 ∧
    IntKind.i64.wrap ((a : Int) * 16777216 + (b : Int) * 65536 + (c : Int) * 256 + (e : Int)) = (a : Int) * 16777216 + (b : Int) * 65536 + (c : Int) * 256 + (e : Int) ∧
    IntKind.i64.wrap (a : Int) = (a : Int) ∧ IntKind.i64.wrap (b : Int) = (b : Int) ∧ IntKind.i64.wrap (c : Int) = (c : Int) ∧ IntKind.i64.wrap (e : Int) = (e : Int) := by
  have g1 : (a : Int) < 256 := by omega
  have g2 : (b : Int) < 256 := by omega
  have g3 : (c : Int) < 256 := by omega
  have g4 : (e : Int) < 256 := by omega
  have k1 : 0 ≤ (a : Int) := by omega
  have k2 : 0 ≤ (b : Int) := by omega
  have k3 : 0 ≤ (c : Int) := by omega
  have k4 : 0 ≤ (e : Int) := by omega
  clear h1 h2 h3 h4
  generalize (a : Int) = a at *
  generalize (b : Int) = b at *
  generalize (c : Int) = c at *
  generalize (e : Int) = e at *
  refine ⟨?_, ?_, ?_, ?_, ?_, ?_, ?_, ?_, ?_, ?_⟩ <;> exact IntWalk.i64_in _ (by omega)
theorem four_sum (a b c e n : Nat) (h1 : a < 256) (h2 : b < 256) (h3 : c < 256) (h4 : e < 256) (h : n = a * 16777216 + b * 65536 + c * 256 + e) :
    (a : Int) * 16777216 + (b : Int) * 65536 + (c : Int) * 256 + (e : Int) = (n : Int) ∧ (n : Int) ≤ 4294967295 := by
  omega

set_option maxHeartbeats 4000000 in
theorem Records_any (T : Nat → Prop) (A0 : Option Addr) (m c : Nat) (A : List UInt8) (w : World) (h : SlT w T (.slice A0 m c) A) (hm : m ≤ 4194304) :
    Calls Tryd.prog 13 #[.slice A0 m c] w (RecP T A w) := by
  obtain ⟨hmA, hmc, hcm⟩ := h.sl.len
  have hmB : (m : Int) ≤ 4194304 := by omega
  have H := Lib.hid h
  have HM := Lib.hid (And.intro hmA (And.intro hmc hcm))
  clear h hmA hmc hcm
  go_enter Tryd.func13, Tryd.ntmps13
  go_wp2_with fail
  go_loopw [5, 6] (fun v uu wr => ∃ (u : Nat) (l : List (List UInt8)), uu = .int .i64 (u : Int) ∧ u ≤ m ∧ l.length ≤ u ∧ Sofar A l u ∧ OwnL wr w.heap.size T v l ∧ Below w.heap.size w wr) (fun _ uu _ => m - (intOf uu).toNat)
  case atStart => exact ⟨0, [], rfl, Nat.zero_le _, Nat.le_refl _, sofar_start A, OwnL.nil_ _ _ _, Below.refl _ _⟩
  case round =>
    obtain ⟨u, l, rfl, hum, hlu, hso, how, hbw⟩ := hrel
    have HS := Lib.hid (And.intro hso (And.intro hlu hum))
    have HO := Lib.hid (And.intro how hbw)
    obtain ⟨Av, cv, rfl, -, -⟩ := how.form
    clear hso how hbw hlu
    have iu : (u : Int) ≤ (m : Int) := by omega
    by_cases h5 : m - u < 5
    · have i5 : ¬ 5 ≤ (m : Int) - (u : Int) := by omega
      have HRD := Lib.hid (sofar_short HS.out.1 (by have := HM.out.1; omega))
      go_wp2_with fail
      go_ret3
      exact RecP.yes HRD.out HO.out.1 HO.out.2
    · have i5 : 5 ≤ (m : Int) - (u : Int) := by omega
      obtain ⟨b, off, rfl, hT, hc⟩ : ∃ b off, A0 = some ⟨b, off, none⟩ ∧ T b ∧ ∀ t, t < m → w.cell? ⟨b, off + t, none⟩ = some (.int .u8 ((A.getD t 0).toNat : Int)) := by
        obtain ⟨A', c', hv, _, _, h3⟩ := H.out
        injection hv with e1 e2 _
        subst e1
        rcases h3 with h3 | ⟨b, off, rfl, hb, hc⟩
        · rw [h3] at e2; simp at e2; omega
        · exact ⟨b, off, rfl, hb, fun t ht => hc t (by omega)⟩
      have hblt : b < w.heap.size := World.block_lt_of_cell? w ⟨b, off + u, none⟩ (hc u (by omega))
      have hcw : ∀ t, t < m → wr.cell? ⟨b, off + t, none⟩ = some (.int .u8 ((A.getD t 0).toNat : Int)) := fun t ht => (HO.out.2.cell (p := ⟨b, off + t, none⟩) hblt).trans (hc t ht)
      have g0 := hcw u (by omega)
      have HC := Lib.hid (And.intro hblt (And.intro hT hcw))
      obtain ⟨x, hx⟩ : ∃ x, x = A.getD u 0 := ⟨_, rfl⟩
      rw [← hx] at g0
      have iu0 : (0 : Int) ≤ (u : Int) := by omega
      have iun : u < m := by omega
      have iu2 : (u : Int) < (m : Int) := by omega
      clear hc hblt hT hcw
      by_cases hz : x = 0
      · have HRD := Lib.hid (sofar_zero HS.out.1 (by have := HM.out.1; omega) (hx.symm.trans hz))
        subst hz
        have g0' : wr.cell? ⟨b, off + u, none⟩ = some (.int .u8 0) := g0
        clear g0 hx
        go_wp2_with fail
        go_ret3
        exact RecP.yes HRD.out HO.out.1 HO.out.2
      · have hxn : ¬ (x.toNat : Int) = 0 := fun e => hz (UInt8.toNat_inj.1 (by show x.toNat = 0; omega))
        have g1 := HC.out.2.2 (u + 1) (by omega)
        have g2 := HC.out.2.2 (u + 2) (by omega)
        have g3 := HC.out.2.2 (u + 3) (by omega)
        have g4 := HC.out.2.2 (u + 4) (by omega)
        have hnn := numL_at (A := A) (u := u) (by have := HM.out.1; omega)
        have b1 := (A.getD (u + 1) 0).toNat_lt
        have b2 := (A.getD (u + 2) 0).toNat_lt
        have b3 := (A.getD (u + 3) 0).toNat_lt
        have b4 := (A.getD (u + 4) 0).toNat_lt
        generalize (A.getD (u + 1) 0).toNat = a1 at g1 hnn b1
        generalize (A.getD (u + 2) 0).toNat = a2 at g2 hnn b2
        generalize (A.getD (u + 3) 0).toNat = a3 at g3 hnn b3
        generalize (A.getD (u + 4) 0).toNat = a4 at g4 hnn b4
        obtain ⟨nn, hne⟩ : ∃ nn, nn = numL ((A.drop (u + 1)).take 4) := ⟨_, rfl⟩
        rw [← hne] at hnn
        obtain ⟨hnI, hnb⟩ := four_sum a1 a2 a3 a4 nn b1 b2 b3 b4 hnn
        obtain ⟨q1, q2, q3, q4, q5, q6, q7, q8, q9, q0⟩ := four_wrap a1 a2 a3 a4 b1 b2 b3 b4
        have p1 : ((u : Int) + 1).toNat = u + 1 := by omega
        have p2 : ((u : Int) + 2).toNat = u + 2 := by omega
        have p3 : ((u : Int) + 3).toNat = u + 3 := by omega
        have p4 : ((u : Int) + 4).toNat = u + 4 := by omega
        have s1 : IntKind.i64.wrap ((u : Int) + 1) = (u : Int) + 1 := IntWalk.i64_in _ (by omega)
        have s2 : IntKind.i64.wrap ((u : Int) + 2) = (u : Int) + 2 := IntWalk.i64_in _ (by omega)
        have s3 : IntKind.i64.wrap ((u : Int) + 3) = (u : Int) + 3 := IntWalk.i64_in _ (by omega)
        have s4 : IntKind.i64.wrap ((u : Int) + 4) = (u : Int) + 4 := IntWalk.i64_in _ (by omega)
        have t1 : (u : Int) + 1 < (m : Int) := by omega
        have t2 : (u : Int) + 2 < (m : Int) := by omega
        have t3 : (u : Int) + 3 < (m : Int) := by omega
        have t4 : (u : Int) + 4 < (m : Int) := by omega
        have z1 : 0 ≤ (u : Int) + 1 := by omega
        have z2 : 0 ≤ (u : Int) + 2 := by omega
        have z3 : 0 ≤ (u : Int) + 3 := by omega
        have z4 : 0 ≤ (u : Int) + 4 := by omega
        have HX := Lib.hid (And.intro hx hne)
        have HNI := Lib.hid hnI
        clear hx hne hnI hnn b1 b2 b3 b4
        by_cases hx1 : x = 1
        · subst hx1
          have g0' : wr.cell? ⟨b, off + u, none⟩ = some (.int .u8 1) := g0
          clear g0 hz hxn
          by_cases hfit : nn + 5 ≤ m - u
          · have ifit : ¬ ((m : Int) - (u : Int) - 5 < (nn : Int)) := by omega
            have inn : (nn : Int) ≤ 4194304 := by omega
            have iu5 : (u : Int) + 5 + (nn : Int) ≤ (m : Int) := by omega
            have icc : (u : Int) + 5 + (nn : Int) ≤ (c : Int) := by have := HM.out.2.1; omega
            have hsl : SlT wr (fun k => T k ∧ k < w.heap.size) (.slice (if c = u + 5 then some ⟨b, off, none⟩ else some ⟨b, off + (u + 5), none⟩) nn (c - (u + 5))) ((A.drop (u + 5)).take nn) := by
              have h1 : SlT w (fun k => T k ∧ k < w.heap.size) (.slice (some ⟨b, off, none⟩) m c) A := by
                obtain ⟨A', c', hv, h1, h2, h3⟩ := H.out
                refine ⟨A', c', hv, h1, h2, ?_⟩
                rcases h3 with h3 | ⟨b', o', e', hb', hc'⟩
                · exact Or.inl h3
                · by_cases h0 : A = []
                  · exact Or.inl h0
                  · have hl : 0 < A.length := List.length_pos_iff.2 h0
                    exact Or.inr ⟨b', o', e', ⟨hb', World.block_lt_of_cell? w ⟨b', o' + 0, none⟩ (hc' 0 hl)⟩, hc'⟩
              have h2 := ((h1.cut (k := u + 5) (by have := HM.out.1; omega)).kept (w' := wr) fun k hk _ => HO.out.2.block k hk.2).front (k := nn) (by rw [List.length_drop]; have := HM.out.1; omega)
              exact h2
            have HSL := Lib.hid hsl
            have hso2 := sofar_rec HS.out.1 (n := nn) (by have := HM.out.1; omega) HX.out.1.symm HX.out.2.symm (by have := HM.out.1; omega)
            have HSO2 := Lib.hid hso2
            clear hsl hso2
            by_cases hca : c = u + 5
            case' pos => subst hca
            all_goals
              go_upto_region 5 with fail
              go_quiet (fail)
              clear q7 q8 q9 q0 q1 q2 q3 q4 q5 q6 p1 p2 p3 p4 s1 s2 s3 s4 t1 t2 t3 t4 z1 z2 z3 z4 g1 g2 g3 g4
              rw [HNI.out]
              have hbd := Below.drawn (Below.refl wr.heap.size wr) nq
              have hsl' := HSL.out
              first
                | rw [if_pos rfl] at hsl'
                | rw [if_neg hca] at hsl'
              have HSL' := Lib.hid hsl'
              clear hsl'
              have HBD := Lib.hid hbd
              clear hbd
              go_upto_region 9 with (at_builtin; go_must (with_reducible refine wpList_push (B := w.heap.size) (Q := T) (v := .slice Av l.length cv) (l := l) ?_ rfl (.tmp 62) (.tmp 71) rfl rfl (wr.drewN nq).heap.size _ nn _ rfl (heap_alloc_new _ _) ((A.drop (u + 5)).take nn) ?_ ?_ ?_ ?_))
              · exact HO.out.1.more (HBD.out.alloc HBD.out.size _)
              · refine SlT.mono (T := fun k => T k ∧ k < w.heap.size) ?_ fun k hk => ⟨hk.1, ?_, fun e => ?_⟩
                · first
                    | exact (HSL'.out.kept fun k hk hl => (HBD.out.alloc HBD.out.size _).block k hl)
                    | (have h2 := HSL'.out; rw [Nat.sub_self] at h2; exact (h2.kept fun k hk hl => (HBD.out.alloc HBD.out.size _).block k hl))
                · have := HO.out.2.size; have := hk.2; show k < wr.heap.size + 1; omega
                · have := (HO.out.1.lt k e).1; have := hk.2; omega
              · have := HS.out.2; omega
              · have := HO.out.2.size; show _ ≤ wr.heap.size + 1; omega
              · intro v5 w5 ho5 hg5 _
                have O5 := Lib.hid (And.intro ho5 (((HO.out.2.trans (HBD.out.mono HO.out.2.size)).alloc (by have := HO.out.2.size; exact this) _).grown hg5 (by rw [World.size_alloc]; have := HO.out.2.size; show _ ≤ wr.heap.size + 1; omega) (fun k hk => (HO.out.1.lt k hk).1)))
                clear ho5 hg5
                go_wp2_with fail
                go_roundw
                case rel => exact ⟨u + 5 + nn, l ++ [(A.drop (u + 5)).take nn], by go_num, by omega, by rw [List.length_append]; have := HS.out.2.1; simp; omega, by rw [Nat.add_assoc]; exact HSO2.out, O5.out.1, O5.out.2⟩
                case measure => simp [intOf]; omega
          · have ifit : (m : Int) - (u : Int) - 5 < (nn : Int) := by omega
            have HRD := Lib.hid (sofar_bad HS.out.1 (by have := HM.out.1; omega) (by rw [← HX.out.1]; decide) (by rw [← HX.out.2]; have := HM.out.1; omega))
            go_upto_region 5 with fail
            go_quiet (fail)
            clear q7 q8 q9 q0 q1 q2 q3 q4 q5 q6 p1 p2 p3 p4 s1 s2 s3 s4 t1 t2 t3 t4 z1 z2 z3 z4 g1 g2 g3 g4
            rw [HNI.out]
            go_wp2_with fail
            go_ret3
            exact RecP.no HRD.out (Below.drawn HO.out.2 _)
        · have hx1n : ¬ (x.toNat : Int) = 1 := fun e => hx1 (UInt8.toNat_inj.1 (by show x.toNat = 1; omega))
          have HRD := Lib.hid (sofar_bad HS.out.1 (by have := HM.out.1; omega) (by rw [← HX.out.1]; exact hz) (fun e => hx1 (HX.out.1.trans e.1)))
          go_upto_region 5 with fail
          go_quiet (fail)
          clear q7 q8 q9 q0 q1 q2 q3 q4 q5 q6 p1 p2 p3 p4 s1 s2 s3 s4 t1 t2 t3 t4 z1 z2 z3 z4 g1 g2 g3 g4
          rw [HNI.out]
          go_wp2_with fail
          go_ret3
          exact RecP.no HRD.out (Below.drawn HO.out.2 _)

end Go.Proofs.YthcikgbnenfjpaaDoor.pk
