import Derived.Test.YtncaefocijainaaGreatDoorG40
import Derived.Test.YtncaefocijainaaGreatDoorG30
import Derived.Test.YtncaefocijainaaGreatDoorG12
import Derived.Deep.QuietTactic
import Derived.BigQuiet
import Derived.IntWalk
import Derived.Outline
import Derived.RegionTactic
import Derived.Lib.SlBytesConst
import Derived.Deep.CutBlock
import Derived.Lib.AppendZeros
import Derived.Test.YtncaefocijainaaGreatDoorG34
import Derived.Test.YtncaefocijainaaGreatDoorG31
import Derived.StillTailTactics
import Derived.Test.YtncaefocijainaaGreatDoorG35
import Derived.Test.YtncaefocijainaaGreatDoorG28
import Derived.Test.YtncaefocijainaaGreatDoorG21
import Derived.Test.YtncaefocijainaaGreatDoorG32
namespace Go.Proofs.YtncaefocijainaaGreatDoor.pk
open Go Go.RowKit
set_option maxRecDepth 100000
section
theorem StdP.g {w : World} (h : StdP w) : StdG w := ⟨h.tab, h.std.size⟩
theorem cells7 {w : World} {b t : Nat} {v0 v1 v2 v3 v4 v5 v6 : Value} (h : w.heap[b]? = some (.cells #[v0, v1, v2, v3, v4, v5, v6] t (0, 0))) :
   w.cell? ⟨b, 0, none⟩ = some v0 ∧ w.cell? ⟨b, 1, none⟩ = some v1 ∧ w.cell? ⟨b, 2, none⟩ = some v2 ∧ w.cell? ⟨b, 3, none⟩ = some v3 ∧ w.cell? ⟨b, 4, none⟩ = some v4 ∧ w.cell? ⟨b, 5, none⟩ = some v5 ∧ w.cell? ⟨b, 6, none⟩ = some v6 := by
 refine ⟨?_, ?_, ?_, ?_, ?_, ?_, ?_⟩
 all_goals
   rw [cell_of_row w b _ _ _ (0, 0) h]; rfl
theorem encC_len {c : List Int} (h : c.length ≤ 1000) : (encC c).length ≤ 30000 := by
 rw [encC_lays, List.length_append]
 have h1 := lays_len c
 have h2 := dec_len c.length (by omega)
 unfold lUint
 have h3 := decDigits_le c.length (by omega)
 simp
 omega
def stV (s : St) (q : Pl) : Value := .agg #[.int .i64 s.term, .int .i64 s.vote, .int .i64 s.log.base, .int .i64 s.log.term, .slice q.AL q.nL q.cL, .slice q.AC q.nC q.cC, .slice q.AS q.nS q.cS]
end
section
theorem rCount_of7 {most n : Nat} {s s' : List UInt8} {k k' : Nat} (h : rCount most (s, k) = ((s', k'), n)) : n ≤ most := by
 unfold rCount at h
 simp only at h
 by_cases hk : k = 0
 · rw [if_pos hk] at h
   rcases hr : rdUint most s with ⟨e, m, r⟩
   rw [hr] at h
   simp only at h
   by_cases he : e = 0
   · subst he
     rw [if_neg (by simp)] at h
     obtain ⟨-, i2, -⟩ := rdUint_inv hr
     by_cases hm : r.length < m
     · rw [if_pos hm] at h
       simp only [Prod.mk.injEq] at h
       omega
     · rw [if_neg hm] at h
       simp only [Prod.mk.injEq] at h
       omega
   · rw [if_pos he] at h
     simp only [Prod.mk.injEq] at h
     omega
 · rw [if_neg hk] at h
   simp only [Prod.mk.injEq] at h
   omega
theorem own_blocks {w w' : World} {base e sz n : Nat} {v : Value} {xs : List Value} (h : w.ownsRow base e sz v n xs) (hk : ∀ k, base ≤ k → k < w.heap.size → w'.heap[k]? = w.heap[k]?) : w'.ownsRow base e sz v n xs := by
 refine ⟨h.1, ?_⟩
 rcases h.2 with hn | ⟨g, cap, cur, rfl, hb, hg, rest⟩
 · exact Or.inl hn
 · exact Or.inr ⟨g, cap, cur, rfl, hb, (hk g hb (obj_lt hg)).trans hg, rest⟩
theorem rUint_err0 (most : Nat) (s : List UInt8 × Nat) (h : s.2 ≠ 0) : (rUint most s).1 = s := by unfold rUint; rw [if_neg h]
theorem takeC_stop (s : List UInt8 × Nat) (j : Nat) (h : (takeC j s).1.2 ≠ 0) : ∀ i, (takeC (j + i) s).1 = (takeC j s).1
 | 0 => rfl
 | i + 1 => by
   rw [show j + (i + 1) = (j + i) + 1 from rfl, takeC_snoc, rUint_err0]
   · exact takeC_stop s j h i
   · rw [takeC_stop s j h i]; exact h
theorem RB.cells {w : World} {g : Nat} {x y : Value} (h : RB w g x y) : w.cell? ⟨g, 0, none⟩ = some x ∧ w.cell? ⟨g, 1, none⟩ = some y := by
 unfold RB at h
 exact ⟨by rw [cell_of_row w g 0 _ _ (0, 0) h]; rfl, by rw [cell_of_row w g 1 _ _ (0, 0) h]; rfl⟩
theorem RB.put {w : World} {g : Nat} {x y : Value} (h : RB w g x y) (u v : Value) : ∃ F, F = (w.setCell ⟨g, 0, none⟩ u).setCell ⟨g, 1, none⟩ v ∧ RB F g u v ∧ (∀ k, k ≠ g → F.heap[k]? = w.heap[k]?) ∧ F.heap.size = w.heap.size ∧ (∀ B, B ≤ g → Below B w F) := by
 unfold RB at h ⊢
 exact ⟨_, rfl, setc (setc h _) _, fun k hk => by rw [setc_oth _ hk, setc_oth _ hk], by simp only [World.size_setCell], fun B hB => ((Below.refl B w).setCell (show B ≤ g from hB) _).setCell (show B ≤ g from hB) _⟩
set_option maxHeartbeats 8000000 in
theorem RCDec_any (A : Option Addr) (n c : Nat) (b : List UInt8) (w : World) (h : Bys w (.slice A n c) b) (r : List Int) (hr : r = decC b) (m : Nat) (hm : m = r.length) (f : Nat) (hf : f = if okD b = true then 0 else 3) :
   Calls Tryz.prog 56 #[.slice A n c] w fun y w' => ∃ A1 c1, y = .returned (.tuple #[.slice A1 m c1, .int .i64 (f : Int)]) ∧ w'.ownsRow w.heap.size 3 1 (.slice A1 m c1) m (r.map (Value.int .i64)) ∧ Below w.heap.size w w' := by
 rcases h1 : rCount 7 (b, 0) with ⟨⟨s1, k1⟩, v1⟩
 obtain ⟨n1, hn1⟩ : ∃ n1, n1 = s1.length := ⟨_, rfl⟩
 have C0 := jI (ReadCount_s A n c 0 7 (by omega) b w w.heap.size (Nat.le_refl _) h.sl_ s1 k1 v1 n1 h1 hn1)
 rw [show ((0 : Nat) : Int) = 0 from rfl, show ((7 : Nat) : Int) = 7 from rfl] at C0
 have hv1 : v1 ≤ 7 := (rCount_of7 h1)
 have hraw : rawC b = takeC v1 (s1, k1) := by unfold rawC; rw [h1]
 obtain ⟨i0, hi, hz0, hz1, hz2⟩ := info_three info_int
 have HI := jI (jA hi (jA hz0 (jA hz1 hz2)))
 have HS := jI (jA hraw (jA hr (jA hm (jA hf (jA hv1 hn1)))))
 have iv : (v1 : Int) ≤ 7 := by omega
 clear h h1 hr hm hf hraw hi hz0 hz1 hz2 hn1
 go_enter Tryz.func56, Tryz.ntmps56
 go_upto_region 2 with (go_at_call 57; go_must (refine C0.out.mono ?_; rintro y w1 ⟨A1, c1, rfl, hsl, hb⟩; have H1 := jI (jA hsl hb); clear hsl hb))
 obtain ⟨W2, g, hW2, hg, hb2, hq2, hsz2⟩ := one_box w1 (.cells #[.slice A1 n1 c1, .int .i64 (k1 : Int)] 121)
 rw [← hW2, ← hg]
 have H2 := jI (jA (show RB W2 g (.slice A1 n1 c1) (.int .i64 (k1 : Int)) from hq2) (jA (show Sl W2 w.heap.size (.slice A1 n1 c1) s1 from H1.out.1.below (hb2.mono H1.out.2.size)) (jA (H1.out.2.trans (hb2.mono H1.out.2.size)) (show w.heap.size ≤ g by have := H1.out.2.size; omega))))
 clear hW2 hg hb2 hq2 hsz2 C0
 go_wp2_with fail
 go_loopw [6, 7] (fun vv ii wr => ∃ (j : Nat) (sj : List UInt8) (kj : Nat) (zs : List Int) (Aj : Option Addr) (nj cj : Nat), j ≤ v1 ∧ ii = .int .i64 (j : Int) ∧ Hid (takeC j (s1, k1) = ((sj, kj), zs) ∧ nj = sj.length ∧ RB wr g (.slice Aj nj cj) (.int .i64 (kj : Int)) ∧ Sl wr w.heap.size (.slice Aj nj cj) sj ∧ wr.ownsRow (g + 1) 3 1 vv j (zs.map (Value.int .i64)) ∧ Below w.heap.size w wr)) (fun _ ii _ => v1 - (intOf ii).toNat)
 case atStart => exact ⟨0, s1, k1, [], A1, n1, c1, Nat.zero_le _, rfl, jI ⟨rfl, HS.out.2.2.2.2.2, H2.out.1, H2.out.2.1, World.ownsRow_nil _ _ _ _, H2.out.2.2.1⟩⟩
 case round =>
   obtain ⟨j, sj, kj, zs, Aj, nj, cj, hj, rfl, HR⟩ := hrel
   obtain ⟨x0, x1⟩ := HR.out.2.2.1.cells
   by_cases hgo : j < v1 ∧ kj = 0
   · obtain ⟨hlt, hk0⟩ := hgo
     subst hk0
     have ii : (j : Int) < (v1 : Int) := by omega
     rcases h3 : rUint 64 (sj, 0) with ⟨⟨s3, k3⟩, u⟩
     have hu := rUint_leS 64 (sj, 0)
     rw [h3] at hu
     have hsn := takeC_snoc j (s1, k1)
     rw [HR.out.1] at hsn
     simp only [h3] at hsn
     obtain ⟨n3, hn3⟩ : ∃ q, q = s3.length := ⟨_, rfl⟩
     have C3 := ReadUint_s Aj nj cj 0 64 sj wr w.heap.size HR.out.2.2.2.2.2.size HR.out.2.2.2.1 s3 k3 u n3 h3 hn3
     rw [show ((0 : Nat) : Int) = 0 from rfl, show ((64 : Nat) : Int) = 64 from rfl] at C3
     have C3 := jI C3
     have ku : IntKind.i64.wrap (u : Int) = (u : Int) := wrap_small (by simp only at hu; omega)
     have HX := jI (jA hsn (jA hn3 hlt))
     rw [show ((0 : Nat) : Int) = 0 from rfl] at x1
     clear hsn h3 hu hn3 hlt
     have y0 := HR.out.2.2.1
     unfold RB at y0
     go_upto_region 8 with (go_at_call 54; go_must (refine C3.out.mono ?_; rintro y w3 ⟨A3, c3, rfl, hsl, hb⟩; have hrb : RB w3 g (.slice Aj nj cj) (.int .i64 0) := (hb.block g (obj_lt y0)).trans y0; obtain ⟨x0, x1⟩ := hrb.cells; have f0 := frozen_own hrb 0; have f1 := frozen_own hrb 1; have H3 := jI (jA hrb (jA hsl (jA hb (own_kept HR.out.2.2.2.2.1 hb)))); clear hsl hb hrb))
     obtain ⟨F, hF, hRF, hoth, hsF, hbF⟩ := H3.out.1.put (.slice A3 n3 c3) (.int .i64 (k3 : Int))
     rw [← hF]
     have hOwn := own_blocks (w' := F) H3.out.2.2.2 (fun k hk _ => hoth k (by have := hk; omega))
     have H4 := jI (jA hRF (jA (show Sl F w.heap.size (.slice A3 n3 c3) s3 from H3.out.2.1.below (hbF _ H2.out.2.2.2)) (jA hOwn (jA (HR.out.2.2.2.2.2.trans ((H3.out.2.2.1.mono HR.out.2.2.2.2.2.size).trans (hbF _ H2.out.2.2.2))) (show g < F.heap.size from obj_lt hRF)))))
     clear hF hRF hoth hsF hbF hOwn x0 x1 f0 f1 y0
     go_wp2_with (at_builtin; go_must (refine wpList_append_row rfl _ _ 22 rfl (g + 1) 3 i0 _ 1 8 Tryz.underlying22 HI.out.1 HI.out.2.1 HI.out.2.2.1 HI.out.2.2.2 rfl (by omega) _ j (zs.map (Value.int .i64)) rfl (H4.out.2.2.1.alloc _) (fun _ => True) (some ⟨F.heap.size, 0, none⟩) 1 1 [.int .i64 (u : Int)] rfl (RowT.lit (heap_alloc_new F _) (by rfl) (by omega)) ?c1 ?c2 ?c3 ?c4 ?c5))
     case c1 => intro z hz; rw [List.mem_singleton.1 hz]; rfl
     case c2 => have := HS.out.2.2.2.2.1; have := HX.out.2.2; simp only [maxLen]; omega
     case c3 => have := HS.out.2.2.2.2.1; have := HX.out.2.2; omega
     case c4 => have := H4.out.2.2.2.2; rw [World.size_alloc]; omega
     case c5 =>
       intro v4 w4 ho hg4
       have hb4 : Below (g + 1) F w4 := ((Below.refl (g + 1) F).alloc (by have := H4.out.2.2.2.2; omega) (.cells #[.int .i64 (u : Int)] 3)).grown hg4 (by have := H4.out.2.2.2.2; rw [World.size_alloc]; omega) (fun k hk => (H4.out.2.2.1.lt k hk).1)
       have ho' : w4.ownsRow (g + 1) 3 1 v4 (j + 1) ((zs ++ [(u : Int)]).map (Value.int .i64)) := by rw [List.map_append]; exact ho
       have HF := jI (jA (show RB w4 g (.slice A3 n3 c3) (.int .i64 (k3 : Int)) from (hb4.block g (Nat.lt_succ_self g)).trans H4.out.1) (jA (H4.out.2.1.below (hb4.mono (by have := H2.out.2.2.2; omega))) (jA ho' (H4.out.2.2.2.1.trans (hb4.mono (by have := H2.out.2.2.2; omega))))))
       clear ho ho' hg4 hb4
       have hjj := HX.out.2.2
       have hvv := HS.out.2.2.2.2.1
       go_wp2_with fail
       go_roundw
       case rel => exact ⟨j + 1, s3, k3, zs ++ [(u : Int)], A3, n3, c3, by omega, by go_num, jI ⟨HX.out.1, HX.out.2.1, HF.out.1, HF.out.2.1, HF.out.2.2.1, HF.out.2.2.2⟩⟩
       case measure => simp [intOf]; omega
   · have hst : (rawC b).1 = (sj, kj) := by
       rw [HS.out.1]
       by_cases hlt : j < v1
       · have hk : kj ≠ 0 := fun e => hgo ⟨hlt, e⟩
         have := takeC_stop (s1, k1) j (by rw [HR.out.1]; exact hk) (v1 - j)
         rw [show j + (v1 - j) = v1 by omega, HR.out.1] at this
         exact this
       · rw [show v1 = j by omega, HR.out.1]
     obtain ⟨d, hd⟩ : ∃ d, d = doneR (sj, kj) := ⟨_, rfl⟩
     have hok : okD b = (decide (d = 0) && mayC (rawC b).2) := by unfold okD; rw [hst, ← hd]
     have CDn := jI fun W => RefDone_s Aj nj cj kj sj HR.out.2.1 W d hd
     have RBF := jI fun W (hW : Below wr.heap.size wr W) => (show RB W g (.slice Aj nj cj) (.int .i64 (kj : Int)) from (hW.block g (obj_lt HR.out.2.2.1)).trans HR.out.2.2.1)
     by_cases hd0 : d = 0
     · have hk0 : kj = 0 := by
         rw [hd] at hd0
         unfold doneR at hd0
         by_cases h0 : kj = 0
         · exact h0
         · rw [if_neg (fun e => h0 e.1)] at hd0; exact absurd hd0 h0
       have hjv : ¬ j < v1 := fun e => hgo ⟨e, hk0⟩
       have hje : j = v1 := by omega
       have ii : ¬ (j : Int) < (v1 : Int) := by omega
       have hzs : (rawC b).2 = zs := by rw [HS.out.1, ← hje, HR.out.1]
       have hzl : zs.length = j := by have := takeC_len j (s1, k1); rw [HR.out.1] at this; exact this
       have hin : ∀ z ∈ zs, inI z := fun z hz => by have := takeC_le j (s1, k1) z (by rw [HR.out.1]; exact hz); unfold inI; omega
       obtain ⟨A5, c5, hv5, -, -⟩ := (RowT.of_own HR.out.2.2.2.2.1 (fun _ => True) fun _ _ => trivial).form
       have hI : wr.ownsRow w.heap.size 3 1 (.slice A5 j c5) j (zs.map (Value.int .i64)) := by rw [← hv5]; exact own_base HR.out.2.2.2.2.1 (by have := H2.out.2.2.2; omega)
       have hIn : Ints wr (.slice A5 j c5) zs := Ints.of_own (by rw [hzl]; exact hI) hin
       obtain ⟨bm, hbm⟩ : ∃ bm, bm = mayC zs := ⟨_, rfl⟩
       have CM := jI fun W (hW : Below wr.heap.size wr W) => MayC_any A5 j c5 zs W (hIn.below hW) bm hbm
       have HF := jI (jA hI (jA HR.out.2.2.2.2.2 hzl))
       rw [hzs, ← hbm, decide_eq_true hd0, Bool.true_and] at hok
       subst hd0
       rw [hv5]
       have HO := jI (jA hok hzs)
       clear hk0 hjv hje hgo hst hzs hzl hin hv5 hI hIn hbm hok hd
       cases bm with
       | false =>
         have hm0 : m = 0 := by rw [HS.out.2.2.1, HS.out.2.1]; unfold decC; rw [HO.out.1]; rfl
         have hr0 : r = [] := by rw [HS.out.2.1]; unfold decC; rw [HO.out.1]; rfl
         have hf3 : f = 3 := by rw [HS.out.2.2.2.1, HO.out.1]; rfl
         subst hm0; subst hr0; subst hf3
         go_wp2_with (first
           | (go_at_call 59; go_must (refine (CDn.out _).mono ?_; rintro y w7 ⟨rfl, hb⟩; have H7 := jI hb; clear hb))
           | (go_at_call 86; go_must (refine (CM.out _ H7.out).mono ?_; rintro y w8 ⟨rfl, hb⟩; have H8 := jI (H7.out.trans (hb.mono H7.out.size)); clear hb)))
         go_ret2
         exact ⟨none, 0, rfl, World.ownsRow_nil _ _ _ _, HF.out.2.1.trans (H8.out.mono HF.out.2.1.size)⟩
       | true =>
         have hr0 : r = zs := by rw [HS.out.2.1]; unfold decC; rw [HO.out.1, if_pos rfl, HO.out.2]
         have hm0 : m = j := by rw [HS.out.2.2.1, hr0]; exact HF.out.2.2
         have hf3 : f = 0 := by rw [HS.out.2.2.2.1, HO.out.1]; rfl
         subst hm0; subst hr0; subst hf3
         go_wp2_with (first
           | (go_at_call 59; go_must (refine (CDn.out _).mono ?_; rintro y w7 ⟨rfl, hb⟩; have H7 := jI hb; clear hb))
           | (go_at_call 86; go_must (refine (CM.out _ H7.out).mono ?_; rintro y w8 ⟨rfl, hb⟩; have H8 := jI (H7.out.trans (hb.mono H7.out.size)); clear hb)))
         go_ret2
         exact ⟨A5, c5, rfl, own_kept HF.out.1 H8.out, HF.out.2.1.trans (H8.out.mono HF.out.2.1.size)⟩
     · have hm0 : m = 0 := by rw [HS.out.2.2.1, HS.out.2.1]; unfold decC; rw [hok, decide_eq_false hd0]; rfl
       have hr0 : r = [] := by rw [HS.out.2.1]; unfold decC; rw [hok, decide_eq_false hd0]; rfl
       have hf3 : f = 3 := by rw [HS.out.2.2.2.1, hok, decide_eq_false hd0]; rfl
       have id0 : ¬ (d : Int) = 0 := by omega
       have id1 : ((d : Int) != 0) = true := by simpa using hd0
       subst hm0; subst hr0; subst hf3
       have HRR := jI HR.out.2.2.2.2.2
       by_cases hlt : j < v1
       · have ii : (j : Int) < (v1 : Int) := by omega
         have hk : kj ≠ 0 := fun e => hgo ⟨hlt, e⟩
         have ik : ¬ (kj : Int) = 0 := by omega
         clear hgo hst hd hok hd0 hlt hk
         go_wp2_with (go_at_call 59; go_must (refine (CDn.out _).mono ?_; rintro y w7 ⟨rfl, hb⟩; have H7 := jI hb; clear hb))
         go_ret2
         exact ⟨none, 0, rfl, World.ownsRow_nil _ _ _ _, HRR.out.trans (H7.out.mono HRR.out.size)⟩
       · have ii : ¬ (j : Int) < (v1 : Int) := by omega
         clear hgo hst hd hok hd0 hlt
         go_wp2_with (go_at_call 59; go_must (refine (CDn.out _).mono ?_; rintro y w7 ⟨rfl, hb⟩; have H7 := jI hb; clear hb))
         go_ret2
         exact ⟨none, 0, rfl, World.ownsRow_nil _ _ _ _, HRR.out.trans (H7.out.mono HRR.out.size)⟩
end
section
theorem encEs_nx {l : List En} {j : Nat} (h : j < l.length) : encEs (l.take (j + 1)) = encEs (l.take j) ++ lBytes (encE l[j]) := by
 unfold encEs
 rw [List.take_succ_eq_append_getElem h, List.flatMap_append]
 simp
theorem encEs_tk {l : List En} (h : ∀ e ∈ l, e.data.length ≤ 25663) (hn : l.length ≤ 200) (j : Nat) : (encEs (l.take j)).length ≤ 5200000 := by
 have h1 := encEs_len (d := 25663) (l := l.take j) (fun e he => h e (List.mem_of_mem_take he)) (by omega)
 rw [List.length_take] at h1
 have h2 : min j l.length * (25663 + 110) ≤ 200 * (25663 + 110) := Nat.mul_le_mul_right _ (by omega)
 omega
theorem cells5 {w : World} {b t : Nat} {v0 v1 v2 v3 v4 : Value} (h : w.heap[b]? = some (.cells #[v0, v1, v2, v3, v4] t (0, 0))) :
   w.cell? ⟨b, 0, none⟩ = some v0 ∧ w.cell? ⟨b, 1, none⟩ = some v1 ∧ w.cell? ⟨b, 2, none⟩ = some v2 ∧ w.cell? ⟨b, 3, none⟩ = some v3 ∧ w.cell? ⟨b, 4, none⟩ = some v4 := by
 refine ⟨?_, ?_, ?_, ?_, ?_⟩
 all_goals
   rw [cell_of_row w b _ _ _ (0, 0) h]; rfl
def aheadV (n : Int) (s : St) : Value := .agg #[.int .i64 n, .int .i64 s.term, .int .i64 s.vote, .int .i64 s.log.base, .int .i64 s.log.term]
def aheadL (n : Int) (s : St) : List Int := [n, s.term, s.vote, s.log.base, s.log.term]
theorem aheadL_lays (n : Int) (s : St) : lays (aheadL n s) = numS n s := by simp [lays, aheadL, numS, List.append_assoc]
set_option maxHeartbeats 4000000 in
theorem ahead_any (n : Int) (s : St) (q : Pl) (w : World) :
   Calls Tryz.prog 64 #[.int .i64 n, stV s q] w fun y w' => y = .returned (aheadV n s) ∧ Below w.heap.size w w' := by
 obtain ⟨W1, g0, hW1, hg0, hb1, hq1, hsz1⟩ := one_box w (.cells #[.int .i64 s.term, .int .i64 s.vote, .int .i64 s.log.base, .int .i64 s.log.term, .slice q.AL q.nL q.cL, .slice q.AC q.nC q.cC, .slice q.AS q.nS q.cS] 35)
 obtain ⟨W2, g1, hW2, hg1, hb2, hq2, hsz2⟩ := one_box W1 (.cells #[.int .i64 0, .int .i64 0, .int .i64 0, .int .i64 0, .int .i64 0] 146)
 have hres : Tryz.f64.results = #[.cell 4 146] := by kernel_rfl
 have hg1' : g1 = w.heap.size + 1 := by omega
 have hbw : Below w.heap.size w W2 := hb1.trans (hb2.mono hb1.size)
 obtain ⟨z0, z1, z2, z3, z4, z5, z6⟩ := cells7 ((hb2.block g0 (by omega)).trans hq1)
 obtain ⟨y0, y1, y2, y3, y4⟩ := cells5 hq2
 have e0 : ∀ j, W2.frozen? ⟨g1, j, none⟩ = false := fun j => frozen_own hq2 j
 have HQ := jI hq2
 have HB := jI (jA hbw (show w.heap.size ≤ g1 by omega))
 have HW := jI (jA hW1 hW2)
 have HG := jI (jA hg1' hg0)
 clear hW1 hg0 hb1 hq1 hsz1 hW2 hg1 hb2 hq2 hsz2 hg1' hbw
 unfold stV
 go_enter Tryz.func64, Tryz.ntmps64
 go_upto_region 1 with fail
 rw [← HW.out.1, ← HW.out.2, ← HG.out.1, ← HG.out.2]
 go_wp2_with fail
 obtain ⟨F, hF⟩ : ∃ F, F = ((((W2.setCell ⟨g1, 0, none⟩ (.int .i64 n)).setCell ⟨g1, 1, none⟩ (.int .i64 s.term)).setCell ⟨g1, 2, none⟩ (.int .i64 s.vote)).setCell ⟨g1, 3, none⟩ (.int .i64 s.log.base)).setCell ⟨g1, 4, none⟩ (.int .i64 s.log.term) := ⟨_, rfl⟩
 rw [← hF]
 have hFc : F.heap[g1]? = some (.cells #[.int .i64 n, .int .i64 s.term, .int .i64 s.vote, .int .i64 s.log.base, .int .i64 s.log.term] 146 (0, 0)) := by
   rw [hF]; exact setc (setc (setc (setc (setc HQ.out _) _) _) _) _
 have hbF : Below w.heap.size w F := by
   rw [hF]
   have hB := HB.out.2
   exact ((((HB.out.1.setCell (show w.heap.size ≤ _ from hB) _).setCell (show w.heap.size ≤ _ from hB) _).setCell (show w.heap.size ≤ _ from hB) _).setCell (show w.heap.size ≤ _ from hB) _).setCell (show w.heap.size ≤ _ from hB) _
 refine bodyPost_ret (v := aheadV n s) ?_ rfl ⟨rfl, hbF⟩
 obtain ⟨x0, x1, x2, x3, x4⟩ := cells5 hFc
 clear hbF hFc hF y0 y1 y2 y3 y4 z0 z1 z2 z3 z4 z5 z6 e0
 unfold aheadV
 simp only [results, hres]
 go_simp
set_option maxHeartbeats 16000000 in
theorem SEnc_any (n : Int) (s : St) (q : Pl) (w : World) (hs : StdP w) (hL : Ents w (.slice q.AL q.nL q.cL) s.log.l) (hse : SmallE 200 25663 s.log.l) (hc : Ints w (.slice q.AC q.nC q.cC) s.conf) (hcl : s.conf.length ≤ 1000) (hsn : Bys w (.slice q.AS q.nS q.cS) s.snap) (hsl : s.snap.length ≤ 2000000) (m : Nat) (hm : m = (encS n s).length) :
   Calls Tryz.prog 29 #[.int .i64 n, stV s q] w fun x w' => ∃ A1 c1, x = .returned (.slice A1 m c1) ∧ SlT w' (fun k => w.heap.size ≤ k ∧ k < w'.heap.size) (.slice A1 m c1) (encS n s) ∧ Below w.heap.size w w' := by
 obtain ⟨W1, g, hW1, hg, hb1, hq, hsz⟩ := one_box w (.cells #[.int .i64 s.term, .int .i64 s.vote, .int .i64 s.log.base, .int .i64 s.log.term, .slice q.AL q.nL q.cL, .slice q.AC q.nC q.cC, .slice q.AS q.nS q.cS] 35)
 have hnL := hL.len_
 have hnC := hc.len_le
 have hnS := hsn.len_
 obtain ⟨ne, hne⟩ : ∃ ne, ne = q.nL := ⟨_, rfl⟩
 rw [← hne] at hnL
 have hel := hse.1
 obtain ⟨k1, hk1⟩ : ∃ k1, k1 = (encC s.conf).length := ⟨_, rfl⟩
 have hk1l := encC_len hcl
 have hd0 : Below W1.heap.size W1 W1.drew := (Below.refl _ _).drew
 obtain ⟨B, hB⟩ : ∃ B, B = W1.heap.size := ⟨_, rfl⟩
 have hs1 : StdP W1 := hs.more hb1
 have hGB : 6 ≤ B := by rw [hB]; exact hs1.g.size
 obtain ⟨b1, hb1'⟩ : ∃ b, b = [] ++ lays (aheadL n s) := ⟨_, rfl⟩
 obtain ⟨b2, hb2'⟩ : ∃ b, b = b1 ++ lBytes (encC s.conf) := ⟨_, rfl⟩
 obtain ⟨b3, hb3'⟩ : ∃ b, b = b2 ++ lBytes s.snap := ⟨_, rfl⟩
 obtain ⟨b5, hb5'⟩ : ∃ b, b = b3 ++ lUint ne := ⟨_, rfl⟩
 have hfin : encS n s = b5 ++ encEs s.log.l := by
   rw [hb5', hb3', hb2', hb1', aheadL_lays, List.nil_append, hnL.1]; rfl
 have hz0 : ∀ l : List Int, (lays l).length ≤ 22 * l.length := lays_len
 have hz1 : b1.length ≤ 110 := by rw [hb1', List.nil_append]; have := hz0 (aheadL n s); simp only [aheadL, List.length_cons, List.length_nil] at this ⊢; omega
 have hz2 : b2.length ≤ 40200 := by rw [hb2', List.length_append]; unfold lBytes; rw [List.length_append]; have := lHead_len 98 (encC s.conf).length (by omega); omega
 have hz3 : b3.length ≤ 2040300 := by rw [hb3', List.length_append]; unfold lBytes; rw [List.length_append]; have := lHead_len 98 s.snap.length (by omega); omega
 have hz5 : b5.length ≤ 2040400 := by rw [hb5', List.length_append]; have := dec_len ne (by omega); omega
 have hkn : IntKind.u64.wrap (ne : Int) = (ne : Int) := u64_len (by omega)
 have C0 := jI (New_any W1)
 rw [← hB] at C0
 have HS := jI fun W (hW : Below B W1 W) => hs1.more (show Below W1.heap.size W1 W by rw [← hB]; exact hW)
 have HC := jI fun W (hW : Below B W1 W) => (hc.below hb1).below (show Below W1.heap.size W1 W from by rw [← hB]; exact hW)
 have HI := jI fun W (hW : Below B W1 W) => (hL.below hb1).below (show Below W1.heap.size W1 W from by rw [← hB]; exact hW)
 have HN := jI fun W (hW : Below B W1 W) => ((hsn.below hb1).sl_.more (show W1.heap.size ≤ B by omega)).below hW
 have CA := jI fun W => ahead_any n s q W
 have CU := jI fun (z : Int) (j : Nat) v W (hw : Below B W1 W ∧ WR W B B v ([] ++ lays ((aheadL n s).take j))) => Writer_Uint B B (u64 z) (u64_lt z) v ([] ++ lays ((aheadL n s).take j)) W (HS.out W hw.1).g hGB hw.2 (by have := hz0 ((aheadL n s).take j); rw [List.length_take] at this; simp only [List.nil_append]; simp only [aheadL, List.length_cons, List.length_nil] at this ⊢; omega)
 have C1 := jI fun W (hW : Below B W1 W) => CEnc_any s.conf q.AC q.nC q.cC W (HS.out W hW).g (HC.out W hW) (by omega) k1 hk1
 have C2 := jI fun A c v W hsW hw ht => Writer_BytesQ B B A k1 c (encC s.conf) v b1 W hsW hGB hw ht (by omega)
 have C3 := jI fun v W hsW hw ht => Writer_Bytes B B q.AS q.nS q.cS s.snap B (Nat.le_refl _) v b2 W hsW hGB hw ht (by omega)
 have C4 := jI fun v W hsW hw => Writer_Uint B B ne (by omega) v b3 W hsW hGB hw (by omega)
 rw [← hb2'] at C2
 rw [← hb3'] at C3
 rw [← hb5'] at C4
 have HW := jI (jA hW1 hg)
 have HE := jI (jA hb1 (jA hq (jA hm (jA hB (jA (show g < B by omega) hGB)))))
 have HN2 := jI (jA hfin (jA hse (jA hnL hz5)))
 have HB1 := jI hb1'
 have HCL := jI fun W (hW : Below B W1 W) => cells7 ((hW.block g HE.out.2.2.2.2.1).trans hq)
 have HNE := jI hne
 have in2 : (ne : Int) ≤ 9223372036854775807 := by omega
 obtain ⟨z0, z1, z2, z3, z4, z5, z6⟩ := cells7 hq
 rw [← hne] at z4
 clear hB hne hs hL hse hc hcl hsn hsl hW1 hg hb1 hq hsz hnC hnS hk1 hk1l hb1' hfin hz0 hz1 hz2 hz3 hz5 hs1 hGB hm hnL hel hd0 hb2' hb3' hb5'
 unfold stV
 unfold stV aheadV at CA
 go_enter Tryz.func29, Tryz.ntmps29
 go_upto_region 1 with fail
 rw [← HW.out.1, ← HW.out.2]
 go_upto_region 2 with (go_at_call 70; go_must (refine C0.out.mono ?_; rintro y w1 ⟨rfl, hw, hb⟩; obtain ⟨z0, z1, z2, z3, z4, z5, z6⟩ := HCL.out w1 hb; have H1 := jI (jA hb hw); clear hb hw))
 go_wp2_with (go_at_call 64; go_must (refine (CA.out _).mono ?_; rintro y w2 ⟨rfl, hb⟩; have H2 := jI (jA (H1.out.1.trans (hb.mono H1.out.2.hB)) (H1.out.2.kept hb)); clear hb))
 clear z0 z1 z2 z3 z4 z5 z6 C0 CA
 go_loopw [14] (fun ii wr => ∃ (j : Nat) (v' : Value), (j = 0 ∧ ii = .int .i64 0 ∨ j = 1 ∧ ii = .int .i64 1 ∨ j = 2 ∧ ii = .int .i64 2 ∨ j = 3 ∧ ii = .int .i64 3 ∨ j = 4 ∧ ii = .int .i64 4 ∨ j = 5 ∧ ii = .int .i64 5) ∧ Hid (Below B W1 wr ∧ WR wr B B v' ([] ++ lays ((aheadL n s).take j)))) (fun ii _ => 5 - (intOf ii).toNat)
 case atStart => exact ⟨0, .slice none 0 0, Or.inl ⟨rfl, rfl⟩, jI ⟨H2.out.1, H2.out.2⟩⟩
 case round =>
   obtain ⟨j, v', hj, HR⟩ := hrel
   rcases hj with ⟨rfl, rfl⟩ | ⟨rfl, rfl⟩ | ⟨rfl, rfl⟩ | ⟨rfl, rfl⟩ | ⟨rfl, rfl⟩ | ⟨rfl, rfl⟩
   · have ix : ∀ W, (Instr.index 146 (.agg #[.int .i64 n, .int .i64 s.term, .int .i64 s.vote, .int .i64 s.log.base, .int .i64 s.log.term]) (.int .i64 0)).run Tryz.prog W = .ok (.int .i64 (n)) W := fun _ => by kernel_rfl
     have HU := jI (CU.out (n) 0 v' wr HR.out)
     have hnx : [] ++ lays ((aheadL n s).take 0) ++ lUint (u64 (n)) = [] ++ lays ((aheadL n s).take (0 + 1)) := by simp [lays, aheadL]
     rw [hnx] at HU
     have kz := wrap_u64 (n)
     obtain ⟨u, hu⟩ : ∃ u, u = u64 (n) := ⟨_, rfl⟩
     rw [← hu] at kz HU
     clear hnx hu
     go_upto_region 5 with fail
     clear ix
     go_wp2_with (go_at_call 71; go_must (refine HU.out.mono ?_; rintro y w3 ⟨v3, rfl, hw, hk⟩; have H3 := jI (jA (HR.out.1.trans hk.below) hw); clear hw hk))
     go_roundw
     case rel => exact ⟨0 + 1, v3, Or.inr (Or.inl ⟨rfl, by go_num⟩), jI H3.out⟩
     case measure => simp [intOf]
   · have ix : ∀ W, (Instr.index 146 (.agg #[.int .i64 n, .int .i64 s.term, .int .i64 s.vote, .int .i64 s.log.base, .int .i64 s.log.term]) (.int .i64 1)).run Tryz.prog W = .ok (.int .i64 (s.term)) W := fun _ => by kernel_rfl
     have HU := jI (CU.out (s.term) 1 v' wr HR.out)
     have hnx : [] ++ lays ((aheadL n s).take 1) ++ lUint (u64 (s.term)) = [] ++ lays ((aheadL n s).take (1 + 1)) := by simp [lays, aheadL]
     rw [hnx] at HU
     have kz := wrap_u64 (s.term)
     obtain ⟨u, hu⟩ : ∃ u, u = u64 (s.term) := ⟨_, rfl⟩
     rw [← hu] at kz HU
     clear hnx hu
     go_upto_region 5 with fail
     clear ix
     go_wp2_with (go_at_call 71; go_must (refine HU.out.mono ?_; rintro y w3 ⟨v3, rfl, hw, hk⟩; have H3 := jI (jA (HR.out.1.trans hk.below) hw); clear hw hk))
     go_roundw
     case rel => exact ⟨1 + 1, v3, Or.inr (Or.inr (Or.inl ⟨rfl, by go_num⟩)), jI H3.out⟩
     case measure => simp [intOf]
   · have ix : ∀ W, (Instr.index 146 (.agg #[.int .i64 n, .int .i64 s.term, .int .i64 s.vote, .int .i64 s.log.base, .int .i64 s.log.term]) (.int .i64 2)).run Tryz.prog W = .ok (.int .i64 (s.vote)) W := fun _ => by kernel_rfl
     have HU := jI (CU.out (s.vote) 2 v' wr HR.out)
     have hnx : [] ++ lays ((aheadL n s).take 2) ++ lUint (u64 (s.vote)) = [] ++ lays ((aheadL n s).take (2 + 1)) := by simp [lays, aheadL]
     rw [hnx] at HU
     have kz := wrap_u64 (s.vote)
     obtain ⟨u, hu⟩ : ∃ u, u = u64 (s.vote) := ⟨_, rfl⟩
     rw [← hu] at kz HU
     clear hnx hu
     go_upto_region 5 with fail
     clear ix
     go_wp2_with (go_at_call 71; go_must (refine HU.out.mono ?_; rintro y w3 ⟨v3, rfl, hw, hk⟩; have H3 := jI (jA (HR.out.1.trans hk.below) hw); clear hw hk))
     go_roundw
     case rel => exact ⟨2 + 1, v3, Or.inr (Or.inr (Or.inr (Or.inl ⟨rfl, by go_num⟩))), jI H3.out⟩
     case measure => simp [intOf]
   · have ix : ∀ W, (Instr.index 146 (.agg #[.int .i64 n, .int .i64 s.term, .int .i64 s.vote, .int .i64 s.log.base, .int .i64 s.log.term]) (.int .i64 3)).run Tryz.prog W = .ok (.int .i64 (s.log.base)) W := fun _ => by kernel_rfl
     have HU := jI (CU.out (s.log.base) 3 v' wr HR.out)
     have hnx : [] ++ lays ((aheadL n s).take 3) ++ lUint (u64 (s.log.base)) = [] ++ lays ((aheadL n s).take (3 + 1)) := by simp [lays, aheadL]
     rw [hnx] at HU
     have kz := wrap_u64 (s.log.base)
     obtain ⟨u, hu⟩ : ∃ u, u = u64 (s.log.base) := ⟨_, rfl⟩
     rw [← hu] at kz HU
     clear hnx hu
     go_upto_region 5 with fail
     clear ix
     go_wp2_with (go_at_call 71; go_must (refine HU.out.mono ?_; rintro y w3 ⟨v3, rfl, hw, hk⟩; have H3 := jI (jA (HR.out.1.trans hk.below) hw); clear hw hk))
     go_roundw
     case rel => exact ⟨3 + 1, v3, Or.inr (Or.inr (Or.inr (Or.inr (Or.inl ⟨rfl, by go_num⟩)))), jI H3.out⟩
     case measure => simp [intOf]
   · have ix : ∀ W, (Instr.index 146 (.agg #[.int .i64 n, .int .i64 s.term, .int .i64 s.vote, .int .i64 s.log.base, .int .i64 s.log.term]) (.int .i64 4)).run Tryz.prog W = .ok (.int .i64 (s.log.term)) W := fun _ => by kernel_rfl
     have HU := jI (CU.out (s.log.term) 4 v' wr HR.out)
     have hnx : [] ++ lays ((aheadL n s).take 4) ++ lUint (u64 (s.log.term)) = [] ++ lays ((aheadL n s).take (4 + 1)) := by simp [lays, aheadL]
     rw [hnx] at HU
     have kz := wrap_u64 (s.log.term)
     obtain ⟨u, hu⟩ : ∃ u, u = u64 (s.log.term) := ⟨_, rfl⟩
     rw [← hu] at kz HU
     clear hnx hu
     go_upto_region 5 with fail
     clear ix
     go_wp2_with (go_at_call 71; go_must (refine HU.out.mono ?_; rintro y w3 ⟨v3, rfl, hw, hk⟩; have H3 := jI (jA (HR.out.1.trans hk.below) hw); clear hw hk))
     go_roundw
     case rel => exact ⟨4 + 1, v3, Or.inr (Or.inr (Or.inr (Or.inr (Or.inr ⟨rfl, by go_num⟩)))), jI H3.out⟩
     case measure => simp [intOf]
   · have hw5 : WR wr B B v' b1 := by rw [HB1.out]; exact HR.out.2
     have HR5 := jI (jA HR.out.1 hw5)
     clear hw5 HR CU H1 H2
     go_upto_block 0 with fail
     refine wp_region_held_drew (S := fun W => Below B W1 W) (by kernel_rfl) (HR5.out.1.drew) (fun hHeld => ?_)
     refine wpAnyH_take (i := 0) (oi := { dst := Option.some 22, op := Op.move (Operand.tmp 5), type := 156, pos := "bytes.go:33", after := #[], guard := Option.none }) (v := .pointer (some ⟨B, 0, none⟩)) rfl (by kernel_rfl) (by kernel_rfl) (by kernel_rfl) (fun _ _ _ h => h) (Or.inl ⟨by rfl, ?_⟩) hHeld ?_
     · intro W hSw
       obtain ⟨z0, z1, z2, z3, z4, z5, z6⟩ := HCL.out _ hSw
       go_simp
     simp only [Act.put, qA, qB, qC]
     refine wpAnyH_take (i := 1) (oi := { dst := Option.some 23, op := Op.fieldAddr 35 (Operand.tmp 3) 3, type := 0, pos := "bytes.go:33", after := #[], guard := Option.none }) (v := .pointer (some ⟨g, 5, none⟩)) rfl (by kernel_rfl) (by kernel_rfl) (by kernel_rfl) (fun _ _ _ h => h) (Or.inl ⟨by rfl, ?_⟩) hHeld ?_
     · intro W hSw
       obtain ⟨z0, z1, z2, z3, z4, z5, z6⟩ := HCL.out _ hSw
       go_simp
     simp only [Act.put, qA, qB, qC]
     refine wpAnyH_take (i := 2) (oi := { dst := Option.some 24, op := Op.load 32 (Operand.tmp 23), type := 32, pos := "bytes.go:33", after := #[{ on := 1, ground := Ground.data }], guard := Option.none }) (v := .slice q.AC q.nC q.cC) rfl (by kernel_rfl) (by kernel_rfl) (by kernel_rfl) (fun _ _ _ h => h) (Or.inl ⟨by rfl, ?_⟩) hHeld ?_
     · intro W hSw
       obtain ⟨z0, z1, z2, z3, z4, z5, z6⟩ := HCL.out _ hSw
       go_simp
     simp only [Act.put, qA, qB, qC]
     refine wpAnyH_take (i := 5) (oi := { dst := Option.some 27, op := Op.fieldAddr 35 (Operand.tmp 3) 4, type := 0, pos := "bytes.go:33", after := #[], guard := Option.none }) (v := .pointer (some ⟨g, 6, none⟩)) rfl (by kernel_rfl) (by kernel_rfl) (by kernel_rfl) (fun _ _ _ h => h) (Or.inl ⟨by rfl, ?_⟩) hHeld ?_
     · intro W hSw
       obtain ⟨z0, z1, z2, z3, z4, z5, z6⟩ := HCL.out _ hSw
       go_simp
     simp only [Act.put, qA, qB, qC]
     refine wpAnyH_take (i := 6) (oi := { dst := Option.some 28, op := Op.load 33 (Operand.tmp 27), type := 33, pos := "bytes.go:33", after := #[{ on := 5, ground := Ground.data }], guard := Option.none }) (v := .slice q.AS q.nS q.cS) rfl (by kernel_rfl) (by kernel_rfl) (by kernel_rfl) (fun _ _ _ h => h) (Or.inl ⟨by rfl, ?_⟩) hHeld ?_
     · intro W hSw
       obtain ⟨z0, z1, z2, z3, z4, z5, z6⟩ := HCL.out _ hSw
       go_simp
     simp only [Act.put, qA, qB, qC]
     refine wpAnyH_take (i := 8) (oi := { dst := Option.some 30, op := Op.fieldAddr 35 (Operand.tmp 3) 2, type := 0, pos := "bytes.go:33", after := #[], guard := Option.none }) (v := .pointer (some ⟨g, 2, none⟩)) rfl (by kernel_rfl) (by kernel_rfl) (by kernel_rfl) (fun _ _ _ h => h) (Or.inl ⟨by rfl, ?_⟩) hHeld ?_
     · intro W hSw
       obtain ⟨z0, z1, z2, z3, z4, z5, z6⟩ := HCL.out _ hSw; rw [← HNE.out] at z4
       go_simp
     simp only [Act.put, qA, qB, qC]
     refine wpAnyH_take (i := 9) (oi := { dst := Option.some 31, op := Op.fieldAddr 31 (Operand.tmp 30) 2, type := 0, pos := "bytes.go:33", after := #[{ on := 8, ground := Ground.data }], guard := Option.none }) (v := .pointer (some ⟨g, 4, none⟩)) rfl (by kernel_rfl) (by kernel_rfl) (by kernel_rfl) (fun _ _ _ h => h) (Or.inl ⟨by rfl, ?_⟩) hHeld ?_
     · intro W hSw
       obtain ⟨z0, z1, z2, z3, z4, z5, z6⟩ := HCL.out _ hSw; rw [← HNE.out] at z4
       go_simp
     simp only [Act.put, qA, qB, qC]
     refine wpAnyH_take (i := 10) (oi := { dst := Option.some 32, op := Op.load 29 (Operand.tmp 31), type := 29, pos := "bytes.go:33", after := #[{ on := 9, ground := Ground.data }], guard := Option.none }) (v := .slice q.AL ne q.cL) rfl (by kernel_rfl) (by kernel_rfl) (by kernel_rfl) (fun _ _ _ h => h) (Or.inl ⟨by rfl, ?_⟩) hHeld ?_
     · intro W hSw
       obtain ⟨z0, z1, z2, z3, z4, z5, z6⟩ := HCL.out _ hSw; rw [← HNE.out] at z4
       go_simp
     simp only [Act.put, qA, qB, qC]
     refine wpAnyH_take (i := 11) (oi := { dst := Option.some 33, op := Op.call { callee := Callee.builtin Builtin.len, args := #[Operand.tmp 32], argTypes := #[29] }, type := 3, pos := "bytes.go:33", after := #[{ on := 10, ground := Ground.data }], guard := Option.none }) (v := .int .i64 (ne : Int)) rfl (by kernel_rfl) (by kernel_rfl) (by kernel_rfl) (fun _ _ _ h => h) (Or.inl ⟨by rfl, ?_⟩) hHeld ?_
     · intro W hSw
       obtain ⟨z0, z1, z2, z3, z4, z5, z6⟩ := HCL.out _ hSw; rw [← HNE.out] at z4
       go_simp
     simp only [Act.put, qA, qB, qC]
     refine wpAnyH_take (i := 12) (oi := { dst := Option.some 34, op := Op.convert 3 91 (Operand.tmp 33), type := 91, pos := "bytes.go:33", after := #[{ on := 11, ground := Ground.data }], guard := Option.none }) (v := .int .u64 (ne : Int)) rfl (by kernel_rfl) (by kernel_rfl) (by kernel_rfl) (fun _ _ _ h => h) (Or.inl ⟨by rfl, ?_⟩) hHeld ?_
     · intro W hSw
       obtain ⟨z0, z1, z2, z3, z4, z5, z6⟩ := HCL.out _ hSw; rw [← HNE.out] at z4
       go_simp
     simp only [Act.put, qA, qB, qC]
     refine wpAnyH_ready (rs := [3]) (by kernel_rfl) (by simp) ?_
     refine AllReadyH.cons (o := { dst := Option.some 25, op := Op.call { callee := Callee.value (Operand.func 73), args := #[Operand.tmp 24], argTypes := #[32] }, type := 33, pos := "bytes.go:33", after := #[{ on := 2, ground := Ground.data }], guard := Option.none }) rfl (fun K hK => ?_) AllReadyH.nil
     go_simp
     refine (C1.out _ HR5.out.1.drew).mono ?_
     rintro y w2 ⟨A2, c2, rfl, hi2, hb2⟩
     have hw2 := (HR5.out.2.kept (Below.refl _ _).drew).kept hb2
     have hb : Below B W1 w2 := HR5.out.1.drew.trans (hb2.mono HR5.out.2.hB)
     refine hK.out _ _ hb (fun hHeld2 => ?_)
     clear hK K hHeld
     have hHeld := hHeld2
     clear hHeld2
     have H2 := jI (jA hw2 (jA hb (hi2.mono (T' := fun k => k < w2.heap.size ∧ k ≠ B ∧ v'.ownBlock ≠ some k) fun k hk => ⟨hk.2, by have := HR5.out.2.lt; have := hk.1; have e : wr.drew.heap.size = wr.heap.size := rfl; omega, fun e' => by have h1 := (HR5.out.2.own.lt k e').2; have := hk.1; have e : wr.drew.heap.size = wr.heap.size := rfl; omega⟩)))
     clear hb hi2 hb2 hw2
     refine wpAnyH_ready (rs := [4]) (by kernel_rfl) (by simp) ?_
     refine AllReadyH.cons (o := { dst := Option.some 26, op := Op.call { callee := Callee.value (Operand.func 72), args := #[Operand.tmp 22, Operand.tmp 25], argTypes := #[156, 33] }, type := 156, pos := "bytes.go:33", after := #[{ on := 0, ground := Ground.data }, { on := 3, ground := Ground.data }, { on := 3, ground := Ground.chain }], guard := Option.none }) rfl (fun K hK => ?_) AllReadyH.nil
     go_simp
     refine (C2.out _ _ _ _ (HS.out _ H2.out.2.1).g H2.out.1 H2.out.2.2).mono ?_
     rintro y w3 ⟨v3, rfl, hw3, hk3⟩
     have hb : Below B W1 w3 := H2.out.2.1.trans hk3.below
     refine hK.out _ _ hb (fun hHeld2 => ?_)
     clear hK K hHeld
     have hHeld := hHeld2
     clear hHeld2
     have H3 := jI (jA hw3 hb)
     clear hw3 hb hk3
     refine wpAnyH_ready (rs := [7]) (by kernel_rfl) (by simp) ?_
     refine AllReadyH.cons (o := { dst := Option.some 29, op := Op.call { callee := Callee.value (Operand.func 72), args := #[Operand.tmp 26, Operand.tmp 28], argTypes := #[156, 33] }, type := 156, pos := "bytes.go:33", after := #[{ on := 4, ground := Ground.data }, { on := 6, ground := Ground.data }, { on := 4, ground := Ground.chain }], guard := Option.none }) rfl (fun K hK => ?_) AllReadyH.nil
     go_simp
     refine (C3.out _ _ (HS.out _ H3.out.2).g H3.out.1 (HN.out _ H3.out.2)).mono ?_
     rintro y w4 ⟨v4, rfl, hw4, hk4⟩
     have hb : Below B W1 w4 := H3.out.2.trans hk4.below
     refine hK.out _ _ hb (fun hHeld2 => ?_)
     clear hK K hHeld
     have hHeld := hHeld2
     clear hHeld2
     have H4 := jI (jA hw4 hb)
     clear hw4 hb hk4
     refine wpAnyH_ready (rs := [13]) (by kernel_rfl) (by simp) ?_
     refine AllReadyH.cons (o := { dst := Option.some 35, op := Op.call { callee := Callee.value (Operand.func 71), args := #[Operand.tmp 29, Operand.tmp 34], argTypes := #[156, 91] }, type := 156, pos := "bytes.go:33", after := #[{ on := 7, ground := Ground.data }, { on := 12, ground := Ground.data }, { on := 7, ground := Ground.chain }], guard := Option.none }) rfl (fun K hK => ?_) AllReadyH.nil
     go_simp
     refine (C4.out _ _ (HS.out _ H4.out.2).g H4.out.1).mono ?_
     rintro y w5 ⟨v5, rfl, hw5, hk5⟩
     have hb : Below B W1 w5 := H4.out.2.trans hk5.below
     refine hK.out _ _ hb (fun hHeld2 => ?_)
     clear hK K hHeld hHeld2
     have H5 := jI (jA hb hw5)
     clear hw5 hb hk5 C1 C2 C3 C4 H2 H3 H4
     refine wpAnyH_done (by kernel_rfl) ?_ _
     obtain ⟨z0, z1, z2, z3, z4, z5, z6⟩ := HCL.out _ H5.out.1
     rw [← HNE.out] at z4
     go_wp2_with fail
     go_loopw [40] (fun ii wr => ∃ (j : Nat) (v' : Value), j ≤ ne ∧ ii = .int .i64 (j : Int) ∧ Hid (Below B W1 wr ∧ WR wr B B v' (b5 ++ encEs (s.log.l.take j)))) (fun ii _ => ne - (intOf ii).toNat)
     case atStart => exact ⟨0, v5, Nat.zero_le _, rfl, jI ⟨H5.out.1, by rw [List.take_zero]; simpa [encEs] using H5.out.2⟩⟩
     case round =>
       obtain ⟨j, v', hj, rfl, HR⟩ := hrel
       clear z0 z1 z2 z3 z4 z5 z6
       have hsmall := encEs_tk HN2.out.2.1.2 HN2.out.2.1.1
       by_cases hlt : j < ne
       · have ii : (j : Int) < (ne : Int) := by omega
         have hjl : j < s.log.l.length := by have := HN2.out.2.2.1.1; omega
         have hIj := HI.out wr HR.out.1
         rw [← HNE.out] at hIj
         obtain ⟨bk, off, Ae', ce', hvv, hbb, hok, y0, y1, y2, y3, hdat⟩ := hIj.at_ j hjl
         have hnx := encEs_nx hjl
         have hsm := HN2.out.2.1.2 _ (List.getElem_mem hjl)
         obtain ⟨e, he⟩ : ∃ e, e = s.log.l[j] := ⟨_, rfl⟩
         rw [← he] at y0 y1 y2 y3 hdat hnx hsm
         obtain ⟨me, hme⟩ : ∃ me, me = e.data.length := ⟨_, rfl⟩
         rw [← hme] at y3 hdat hsm
         obtain ⟨WB, qb, hWB, hqb, hbx, hqx, hszx⟩ := one_box wr (.cells #[.int .i64 e.index, .int .i64 e.term, .int .i64 e.kind, .slice Ae' me ce'] 151)
         obtain ⟨k, hk⟩ : ∃ k, k = (encE e).length := ⟨_, rfl⟩
         have hkl : k ≤ 30000 := by have := encE_len (e := e) (by omega); omega
         have hbW : Below B W1 WB := HR.out.1.trans (hbx.mono HR.out.2.hB)
         have CE := jI (EEncT_any e Ae' me ce' WB (HS.out WB hbW).g (hdat.below hbx) (by omega) k hk)
         have CB := jI fun A c v W (hw : Below B W1 W ∧ WR W B B v (b5 ++ encEs (s.log.l.take j))) ht => Writer_BytesQ B B A k c (encE e) v (b5 ++ encEs (s.log.l.take j)) W (HS.out W hw.1).g HE.out.2.2.2.2.2 hw.2 ht (by rw [List.length_append]; have h1 := HN2.out.2.2.2; have h2 := hsmall j; omega)
         have HX := jI (jA hnx (jA hbW (jA hbx (jA hWB hqb))))
         have HWR := jI (HR.out.2.kept hbx)
         obtain ⟨x0, x1, x2, x3⟩ := cells4 hqx
         rw [hvv]
         clear hnx hsm he hme hdat hWB hqb hbx hqx hszx hk hkl hbW hsmall hok hbb hjl hIj hvv
         go_upto_region 11 with fail
         rw [← HX.out.2.2.2.1, ← HX.out.2.2.2.2]
         go_wp2_with (first
           | (go_at_call 74; go_must (refine CE.out.mono ?_; rintro y w7 ⟨A7, c7, rfl, hi, hb⟩; have H7 := jI (jA hi (jA (HX.out.2.1.trans (hb.mono HWR.out.hB)) (HWR.out.kept hb))); clear hi hb))
           | (go_at_call 72; go_must (refine (CB.out A7 c7 v' w7 H7.out.2 (H7.out.1.mono fun q hq => ⟨hq.2, by have h1 := hq.1; have h2 := HWR.out.lt; omega, fun e' => by have h1 := (HWR.out.own.lt q e').2; have h2 := hq.1; omega⟩)).mono ?_; rintro y w8 ⟨v8, rfl, hw, hk⟩; have H8 := jI (jA (H7.out.2.1.trans hk.below) hw); clear hw hk)))
         go_roundw
         case rel => exact ⟨j + 1, v8, by omega, by go_num, jI ⟨H8.out.1, by rw [HX.out.1, ← List.append_assoc]; exact H8.out.2⟩⟩
         case measure => simp [intOf]; omega
       · obtain rfl : j = ne := by omega
         have ii : ¬ (j : Int) < (j : Int) := by omega
         have hfin := HR.out.2
         rw [List.take_of_length_le (by have := HN2.out.2.2.1.1; omega), ← HN2.out.1] at hfin
         have hsl : (encS n s).length ≤ 140737488355328 := by rw [HN2.out.1, List.length_append]; have h1 := HN2.out.2.2.2; have h2 := hsmall j; rw [List.take_of_length_le (by have := HN2.out.2.2.1.1; omega)] at h2; omega
         have CD := jI (Writer_Done B B v' (encS n s) wr hfin hsl)
         have HF := jI (jA (HE.out.1.trans (HR.out.1.mono (by rw [HE.out.2.2.2.1]; exact HE.out.1.size))) hfin.hB)
         clear hfin hsl hsmall
         go_wp2_with (go_at_call 75; go_must (refine CD.out.mono ?_; rintro y w9 ⟨u, rfl, ho, hb⟩; have H9 := jI (jA ho hb); clear ho hb))
         go_ret
         have hI : SlT w9 (fun k => w.heap.size ≤ k ∧ k < w9.heap.size) u (encS n s) := SlT.of_own H9.out.1 _ fun k hk => ⟨by have := (H9.out.1.lt k hk).1; have := HF.out.1.size; omega, (H9.out.1.lt k hk).2⟩
         obtain ⟨A9, c9, rfl, -, -⟩ := id hI
         rw [← HE.out.2.2.1] at hI ⊢
         exact ⟨A9, c9, rfl, hI, HF.out.1.trans (H9.out.2.mono HF.out.1.size)⟩
end
section
theorem ld_badS {cnt j : Nat} {s : List UInt8} {k : Nat} {es : List En} {sF : List UInt8} {kF : Nat} {okF : Bool} {esF : List En} (h : LD cnt j s k true es sF kF okF esF) (hj : j < cnt) {s1 x : List UInt8} {k1 f : Nat} {e : En} (hr : rBytes 98 4200 (s, k) = ((s1, k1), x)) (hd : decE x = (e, f)) (hf : f ≠ 0) :
   (decide (doneR (sF, kF) = 0) && okF) = false := by
 by_cases hk : k = 0
 · subst hk
   have h1 := (ld_next h hj hr hd).bo
   rw [decide_eq_false hf, Bool.and_false, Bool.false_and] at h1
   rw [← h1, Bool.and_false]
 · obtain ⟨rfl, rfl, -, -⟩ := ld_end h (Or.inr hk)
   rw [decide_eq_false (by unfold doneR; rw [if_neg (by simp [hk])]; exact hk), Bool.false_and]
theorem rBytes_stopS {s s1 x : List UInt8} {k k1 : Nat} (hr : rBytes 98 4200 (s, k) = ((s1, k1), x)) (hk : k ≠ 0) : x = [] := by
 unfold rBytes at hr
 rw [if_neg hk] at hr
 injection hr with _ h2
 exact h2.symm
theorem decE_nilS : (decE []).2 = 3 := by
 have h1 := decE_kind []
 rcases h1 with h1 | h1
 · have h2 := (decE_inv h1).1
   have h3 := congrArg List.length h2
   unfold encE lUint at h3
   simp at h3
 · exact h1
def z7 : Array Value := #[.int .i64 0, .int .i64 0, .int .i64 0, .int .i64 0, .slice none 0 0, .slice none 0 0, .slice none 0 0]
structure Dz (w0 : World) (p g : Nat) (W : World) (v : Value) (s : List UInt8) (k : Nat) (a : Array Value) : Prop where
 bel : Below w0.heap.size w0 W
 rd : RD W p v s k
 z : W.heap[g]? = some (.cells z7 35 (0, 0))
 n : W.heap[g + 1]? = some (.cells a 146 (0, 0))
 hp0 : w0.heap.size ≤ p
 hp : p < g
section
variable {w0 W W' : World} {p g : Nat} {v v' : Value} {s s' : List UInt8} {k k' : Nat} {a : Array Value}
theorem Dz.lt (h : Dz w0 p g W v s k a) : g + 1 < W.heap.size := obj_lt h.n
theorem Dz.read (h : Dz w0 p g W v s k a) (hr : RD W' p v' s' k') (hg : W.grownBy W' (some p)) : Dz w0 p g W' v' s' k' a :=
 ⟨Below.rd h.bel hg (Nat.le_refl _) h.hp0, hr, (hg.block g (by have := h.lt; omega) (by intro e; injection e with e; have := h.hp; omega)).trans h.z,
   (hg.block (g + 1) h.lt (by intro e; injection e with e; have := h.hp; omega)).trans h.n, h.hp0, h.hp⟩
theorem Dz.low {C : Nat} (h : Dz w0 p g W v s k a) (hb : Below C W W') (hC : g + 1 < C) : Dz w0 p g W' v s k a :=
 ⟨h.bel.trans (hb.mono (by have := h.hp; have := h.hp0; omega)), h.rd.below hb (by have := h.hp; omega), (hb.block g (by omega)).trans h.z, (hb.block (g + 1) hC).trans h.n, h.hp0, h.hp⟩
theorem Dz.more (h : Dz w0 p g W v s k a) (hb : Below W.heap.size W W') : Dz w0 p g W' v s k a := h.low hb h.lt
theorem Dz.put (h : Dz w0 p g W v s k a) (j : Nat) (x : Value) : Dz w0 p g (W.setCell ⟨g + 1, j, none⟩ x) v s k (a.set! j x) :=
 ⟨h.bel.setCell (show w0.heap.size ≤ g + 1 by have := h.hp; have := h.hp0; omega) _, h.rd.below ((Below.refl (g + 1) W).setCell (Nat.le_refl _) x) (by have := h.hp; omega), (setc_oth x (show g ≠ g + 1 by omega)).trans h.z, setc h.n x, h.hp0, h.hp⟩
theorem Dz.num (h : Dz w0 p g W v s k a) (j : Nat) : W.cell? ⟨g + 1, j, none⟩ = a[j]? := by rw [cell_of_row W (g + 1) j _ _ (0, 0) h.n]
theorem Dz.cells (h : Dz w0 p g W v s k a) : W.cell? ⟨g, 0, none⟩ = some (.int .i64 0) ∧ W.cell? ⟨g, 1, none⟩ = some (.int .i64 0) ∧ W.cell? ⟨g, 2, none⟩ = some (.int .i64 0) ∧ W.cell? ⟨g, 3, none⟩ = some (.int .i64 0) ∧ W.cell? ⟨g, 4, none⟩ = some (.slice none 0 0) ∧ W.cell? ⟨g, 5, none⟩ = some (.slice none 0 0) ∧ W.cell? ⟨g, 6, none⟩ = some (.slice none 0 0) := cells7 h.z
end
structure Rws (w : World) (T : Nat → Prop) (s : St) (q : Pl) : Prop where
 ents : EntsT w T (.slice q.AL q.nL q.cL) s.log.l
 conf : IntsT w T (.slice q.AC q.nC q.cC) s.conf
 snap : SlT w T (.slice q.AS q.nS q.cS) s.snap
theorem Rws.move {w w' : World} {T T' : Nat → Prop} {s : St} {q : Pl} (h : Rws w T s q) (hk : ∀ k, T k → k < w.heap.size → w'.heap[k]? = w.heap[k]?) (ht : ∀ k, T k → T' k) : Rws w' T' s q :=
 ⟨h.ents.move hk ht, (RowT.kept h.conf hk).mono ht, (h.snap.kept hk).mono ht⟩
def TakeP (w0 : World) (b : List UInt8) (e : Ending) (w' : World) : Prop := ∃ (nn : Int) (s' : St) (q : Pl) (ve : Value), e = .returned (.tuple #[.int .i64 nn, stV s' q, ve]) ∧ Below w0.heap.size w0 w' ∧
 (((∃ k : Nat, ve = .iface 69 (.int .i64 (k : Int))) ∧ (decide (doneR (rawS b).st = 0) && (rawS b).ok) = false) ∨
  (ve = .nilIface ∧ (decide (doneR (rawS b).st = 0) && (rawS b).ok) = true ∧ nn = ((rawS b).n : Int) ∧ s' = (rawS b).s ∧ Rws w' (fun k => w0.heap.size ≤ k ∧ k < w'.heap.size) s' q ∧ ∀ e ∈ s'.log.l, e.ok ∧ e.data.length ≤ 4096))
def plz : Pl := ⟨none, 0, 0, none, 0, 0, none, 0, 0, none, 0, 0, none, none, 0, 0⟩
def stz : St := ⟨0, 0, ⟨0, 0, []⟩, [], []⟩
set_option maxHeartbeats 4000000 in
theorem put7 {w : World} {b t : Nat} {u0 u1 u2 u3 u4 u5 u6 : Value} (h : w.heap[b]? = some (.cells #[u0, u1, u2, u3, u4, u5, u6] t (0, 0))) (v0 v1 v2 v3 v4 v5 v6 : Value) :
   ∃ F, F = ((((((w.setCell ⟨b, 0, none⟩ v0).setCell ⟨b, 1, none⟩ v1).setCell ⟨b, 2, none⟩ v2).setCell ⟨b, 3, none⟩ v3).setCell ⟨b, 4, none⟩ v4).setCell ⟨b, 5, none⟩ v5).setCell ⟨b, 6, none⟩ v6 ∧ F.heap[b]? = some (.cells #[v0, v1, v2, v3, v4, v5, v6] t (0, 0)) ∧ (∀ B, B ≤ b → Below B w F) ∧ (∀ k, k ≠ b → F.heap[k]? = w.heap[k]?) ∧ F.heap.size = w.heap.size := by
 refine ⟨_, rfl, setc (setc (setc (setc (setc (setc (setc h _) _) _) _) _) _) _, fun B hB => ?_, fun k hk => ?_, by simp only [World.size_setCell]⟩
 · exact (((((((Below.refl B w).setCell (show B ≤ _ from hB) _).setCell (show B ≤ _ from hB) _).setCell (show B ≤ _ from hB) _).setCell (show B ≤ _ from hB) _).setCell (show B ≤ _ from hB) _).setCell (show B ≤ _ from hB) _).setCell (show B ≤ _ from hB) _
 · rw [setc_oth _ hk, setc_oth _ hk, setc_oth _ hk, setc_oth _ hk, setc_oth _ hk, setc_oth _ hk, setc_oth _ hk]
end
section
theorem rCount_ofS {most n : Nat} {s s' : List UInt8} {k k' : Nat} (h : rCount most (s, k) = ((s', k'), n)) : n ≤ most ∧ ∀ {L : Nat}, s.length ≤ L → s'.length ≤ L := by
 unfold rCount at h
 simp only at h
 by_cases hk : k = 0
 · rw [if_pos hk] at h
   rcases hr : rdUint most s with ⟨e, m, r⟩
   rw [hr] at h
   simp only at h
   by_cases he : e = 0
   · subst he
     rw [if_neg (by simp)] at h
     obtain ⟨i1, i2, -⟩ := rdUint_inv hr
     by_cases hm : r.length < m
     · rw [if_pos hm] at h
       simp only [Prod.mk.injEq] at h
       obtain ⟨⟨rfl, -⟩, rfl⟩ := h
       exact ⟨Nat.zero_le _, fun h => h⟩
     · rw [if_neg hm] at h
       simp only [Prod.mk.injEq] at h
       obtain ⟨⟨rfl, -⟩, rfl⟩ := h
       refine ⟨i2, fun h => ?_⟩
       rw [i1, List.length_append] at h
       omega
   · rw [if_pos he] at h
     simp only [Prod.mk.injEq] at h
     obtain ⟨⟨rfl, -⟩, rfl⟩ := h
     exact ⟨Nat.zero_le _, fun h => h⟩
 · rw [if_neg hk] at h
   simp only [Prod.mk.injEq] at h
   obtain ⟨⟨rfl, -⟩, rfl⟩ := h
   exact ⟨Nat.zero_le _, fun h => h⟩
def Tz (g CB : Nat) (q : Nat) : Prop := g + 2 ≤ q ∧ q < CB
theorem rawS_eq {b s1 s2 s3 s4 s5 s6 s7 s8 x6 x7 sF : List UInt8} {k1 k2 k3 k4 k5 k6 k7 k8 kF nm1 nm2 nm3 nm4 nm5 cnt : Nat} {okF : Bool} {esF : List En}
   (h1 : rUint 1099511627776 (b, 0) = ((s1, k1), nm1)) (h2 : rUint 1099511627776 (s1, k1) = ((s2, k2), nm2)) (h3 : rUint 1099511627776 (s2, k2) = ((s3, k3), nm3)) (h4 : rUint 1099511627776 (s3, k3) = ((s4, k4), nm4)) (h5 : rUint 1099511627776 (s4, k4) = ((s5, k5), nm5))
   (h6 : rBytes 98 512 (s5, k5) = ((s6, k6), x6)) (h7 : rBytes 98 1048576 (s6, k6) = ((s7, k7), x7)) (h8 : rCount 4096 (s7, k7) = ((s8, k8), cnt)) (ht : takeEs cnt (s8, k8) = (((sF, kF), okF), esF)) :
   rawS b = ⟨(sF, kF), okD x6 && okF, nm1, ⟨(nm2 : Int), (nm3 : Int), ⟨(nm4 : Int), (nm5 : Int), esF⟩, decC x6, x7⟩⟩ := by
 unfold rawS
 simp only [numsR, h1, h2, h3, h4, h5, h6, h7, h8, ht]
 rfl
set_option maxHeartbeats 32000000 in
theorem take_any (w0 w : World) (p : Nat) (v : Value) (b : List UInt8) (h0 : Below w0.heap.size w0 w) (hs0 : StdP w0) (hr : RD w p v b 0) (hp0 : w0.heap.size ≤ p) (hl : b.length ≤ 140737488355328) :
   Calls Tryz.prog 112 #[.pointer (some ⟨p, 0, none⟩)] w (TakeP w0 b) := by
 obtain ⟨W1, g, g1, hW1, hg, hg1, hb1, hq0, hq1, hsz⟩ := two_box w (.cells #[.int .i64 0, .int .i64 0, .int .i64 0, .int .i64 0, .slice none 0 0, .slice none 0 0, .slice none 0 0] 35) (.cells #[.int .i64 0, .int .i64 0, .int .i64 0, .int .i64 0, .int .i64 0] 146)
 have hpw := hr.lt
 have D0 : Dz w0 p g W1 v b 0 #[.int .i64 0, .int .i64 0, .int .i64 0, .int .i64 0, .int .i64 0] := ⟨h0.trans (hb1.mono h0.size), hr.below hb1 hpw, hq0, by rw [← hg1]; exact hq1, hp0, by omega⟩
 rcases h1 : rUint 1099511627776 (b, 0) with ⟨⟨s1, k1⟩, nm1⟩
 rcases h2 : rUint 1099511627776 (s1, k1) with ⟨⟨s2, k2⟩, nm2⟩
 rcases h3 : rUint 1099511627776 (s2, k2) with ⟨⟨s3, k3⟩, nm3⟩
 rcases h4 : rUint 1099511627776 (s3, k3) with ⟨⟨s4, k4⟩, nm4⟩
 rcases h5 : rUint 1099511627776 (s4, k4) with ⟨⟨s5, k5⟩, nm5⟩
 rcases h6 : rBytes 98 512 (s5, k5) with ⟨⟨s6, k6⟩, x6⟩
 rcases h7 : rBytes 98 1048576 (s6, k6) with ⟨⟨s7, k7⟩, x7⟩
 rcases h8 : rCount 4096 (s7, k7) with ⟨⟨s8, k8⟩, cnt⟩
 rcases ht : takeEs cnt (s8, k8) with ⟨⟨⟨sF, kF⟩, okF⟩, esF⟩
 have hraw := rawS_eq h1 h2 h3 h4 h5 h6 h7 h8 ht
 have l1 := rUint_short h1
 have l2 := rUint_short h2
 have l3 := rUint_short h3
 have l4 := rUint_short h4
 have l5 := rUint_short h5
 have l5' : s5.length ≤ 140737488355328 := by simp only at l1 l2 l3 l4 l5; omega
 have l6 := rBytes_short h6 l5'
 have l7 := rBytes_short h7 l6.1
 have l8 : s8.length ≤ 140737488355328 := (rCount_ofS h8).2 l7.1
 have hcnt : cnt ≤ 4096 := (rCount_ofS h8).1
 have a1 := rUint_small h1 (by omega)
 have wr1 := wrap_small a1
 have a2 := rUint_small h2 (by omega)
 have wr2 := wrap_small a2
 have a3 := rUint_small h3 (by omega)
 have wr3 := wrap_small a3
 have a4 := rUint_small h4 (by omega)
 have wr4 := wrap_small a4
 have a5 := rUint_small h5 (by omega)
 have wr5 := wrap_small a5
 have C1 := jI fun v W hs h => Uint_s p 1099511627776 b 0 s1 k1 nm1 h1 v W hs h
 have C2 := jI fun v W hs h => Uint_s p 1099511627776 s1 k1 s2 k2 nm2 h2 v W hs h
 have C3 := jI fun v W hs h => Uint_s p 1099511627776 s2 k2 s3 k3 nm3 h3 v W hs h
 have C4 := jI fun v W hs h => Uint_s p 1099511627776 s3 k3 s4 k4 nm4 h4 v W hs h
 have C5 := jI fun v W hs h => Uint_s p 1099511627776 s4 k4 s5 k5 nm5 h5 v W hs h
 obtain ⟨m6, hm6⟩ : ∃ m, m = x6.length := ⟨_, rfl⟩
 obtain ⟨m7, hm7⟩ : ∃ m, m = x7.length := ⟨_, rfl⟩
 obtain ⟨mC, hmC⟩ : ∃ m, m = (decC x6).length := ⟨_, rfl⟩
 have C6 := jI fun v W hs h => Bytes_s p 512 (by omega) s5 k5 l5' s6 k6 x6 h6 m6 hm6 v W hs h
 have C7 := jI fun v W hs h => Bytes_s p 1048576 (by omega) s6 k6 l6.1 s7 k7 x7 h7 m7 hm7 v W hs h
 have C8 := jI fun v W hs h => Count_s p 4096 (by omega) s7 k7 s8 k8 cnt h8 v W hs h
 have CD := jI fun A c W hs h f hf => CDec_any A m6 c x6 W hs h (by rw [hm6]; exact l6.2) (decC x6) rfl mC hmC f hf
 have ww : ((1099511627776 : Nat) : Int) = 1099511627776 := rfl
 have w4 : ((4096 : Nat) : Int) = 4096 := rfl
 rw [ww] at C1 C2 C3 C4 C5
 rw [w4] at C8
 have HS := jI fun W (hW : Below w0.heap.size w0 W) => hs0.more hW
 have HW := jI (jA hW1 (jA hg (show g1 = w.heap.size + 1 by omega)))
 have HG := jI (jA hg1 (show w0.heap.size ≤ g by have := h0.size; omega))
 have HD0 := jI D0
 have HR0 := jI hraw
 have HLD := jI (ld_start ht)
 have HN := jI (jA hcnt (jA l8 (jA hmC hm7)))
 clear h0 hs0 hr hp0 hl hW1 hg hg1 hb1 hq0 hq1 hsz hpw D0 h1 h2 h3 h4 h5 h6 h7 h8 ht hraw l1 l2 l3 l4 l5 l5' l6 l7 l8 hcnt hm6 hm7 hmC ww w4 a1 a2 a3 a4 a5
 go_enter Tryz.func112, Tryz.ntmps112
 go_upto_region 2 with fail
 rw [← HW.out.1, ← HW.out.2.2, ← HW.out.2.1, HG.out.1]
 go_wp2_with fail
 go_loopw [14] (fun ii wr => ∃ (v' : Value), (ii = .int .i64 0 ∧ Hid (Dz w0 p g wr v' b 0 #[.int .i64 0, .int .i64 0, .int .i64 0, .int .i64 0, .int .i64 0])) ∨ (ii = .int .i64 1 ∧ Hid (Dz w0 p g wr v' s1 k1 #[.int .i64 (nm1 : Int), .int .i64 0, .int .i64 0, .int .i64 0, .int .i64 0])) ∨ (ii = .int .i64 2 ∧ Hid (Dz w0 p g wr v' s2 k2 #[.int .i64 (nm1 : Int), .int .i64 (nm2 : Int), .int .i64 0, .int .i64 0, .int .i64 0])) ∨ (ii = .int .i64 3 ∧ Hid (Dz w0 p g wr v' s3 k3 #[.int .i64 (nm1 : Int), .int .i64 (nm2 : Int), .int .i64 (nm3 : Int), .int .i64 0, .int .i64 0])) ∨ (ii = .int .i64 4 ∧ Hid (Dz w0 p g wr v' s4 k4 #[.int .i64 (nm1 : Int), .int .i64 (nm2 : Int), .int .i64 (nm3 : Int), .int .i64 (nm4 : Int), .int .i64 0])) ∨ (ii = .int .i64 5 ∧ Hid (Dz w0 p g wr v' s5 k5 #[.int .i64 (nm1 : Int), .int .i64 (nm2 : Int), .int .i64 (nm3 : Int), .int .i64 (nm4 : Int), .int .i64 (nm5 : Int)]))) (fun ii _ => 5 - (intOf ii).toNat)
 case atStart => exact ⟨v, Or.inl ⟨rfl, HD0⟩⟩
 case round =>
   obtain ⟨v', hrel⟩ := hrel
   rcases hrel with ⟨rfl, HR⟩ | ⟨rfl, HR⟩ | ⟨rfl, HR⟩ | ⟨rfl, HR⟩ | ⟨rfl, HR⟩ | ⟨rfl, HR⟩
   · go_wp2_with (go_at_call 126; go_must (refine (C1.out _ _ (HS.out _ HR.out.bel) HR.out.rd).mono ?_; rintro y w3 ⟨v3, rfl, hr, hg⟩; have H3 := jI (HR.out.read hr hg); clear hr hg; have c3 : w3.cell? ⟨g + 1, 0, none⟩ = some (.int .i64 0) := H3.out.num 0; have f3 := frozen_own H3.out.n 0))
     go_roundw
     case rel => exact ⟨v3, Or.inr (Or.inl ⟨by go_num, jI (H3.out.put 0 _)⟩)⟩
     case measure => simp [intOf]
   · go_wp2_with (go_at_call 126; go_must (refine (C2.out _ _ (HS.out _ HR.out.bel) HR.out.rd).mono ?_; rintro y w3 ⟨v3, rfl, hr, hg⟩; have H3 := jI (HR.out.read hr hg); clear hr hg; have c3 : w3.cell? ⟨g + 1, 1, none⟩ = some (.int .i64 0) := H3.out.num 1; have f3 := frozen_own H3.out.n 1))
     go_roundw
     case rel => exact ⟨v3, Or.inr (Or.inr (Or.inl ⟨by go_num, jI (H3.out.put 1 _)⟩))⟩
     case measure => simp [intOf]
   · go_wp2_with (go_at_call 126; go_must (refine (C3.out _ _ (HS.out _ HR.out.bel) HR.out.rd).mono ?_; rintro y w3 ⟨v3, rfl, hr, hg⟩; have H3 := jI (HR.out.read hr hg); clear hr hg; have c3 : w3.cell? ⟨g + 1, 2, none⟩ = some (.int .i64 0) := H3.out.num 2; have f3 := frozen_own H3.out.n 2))
     go_roundw
     case rel => exact ⟨v3, Or.inr (Or.inr (Or.inr (Or.inl ⟨by go_num, jI (H3.out.put 2 _)⟩)))⟩
     case measure => simp [intOf]
   · go_wp2_with (go_at_call 126; go_must (refine (C4.out _ _ (HS.out _ HR.out.bel) HR.out.rd).mono ?_; rintro y w3 ⟨v3, rfl, hr, hg⟩; have H3 := jI (HR.out.read hr hg); clear hr hg; have c3 : w3.cell? ⟨g + 1, 3, none⟩ = some (.int .i64 0) := H3.out.num 3; have f3 := frozen_own H3.out.n 3))
     go_roundw
     case rel => exact ⟨v3, Or.inr (Or.inr (Or.inr (Or.inr (Or.inl ⟨by go_num, jI (H3.out.put 3 _)⟩))))⟩
     case measure => simp [intOf]
   · go_wp2_with (go_at_call 126; go_must (refine (C5.out _ _ (HS.out _ HR.out.bel) HR.out.rd).mono ?_; rintro y w3 ⟨v3, rfl, hr, hg⟩; have H3 := jI (HR.out.read hr hg); clear hr hg; have c3 : w3.cell? ⟨g + 1, 4, none⟩ = some (.int .i64 0) := H3.out.num 4; have f3 := frozen_own H3.out.n 4))
     go_roundw
     case rel => exact ⟨v3, Or.inr (Or.inr (Or.inr (Or.inr (Or.inr (⟨by go_num, jI (H3.out.put 4 _)⟩)))))⟩
     case measure => simp [intOf]
   · clear C1 C2 C3 C4 C5
     have Bcall := HS
     cases hok : okD x6 with
     | false =>
       have CD3 := jI fun A c W hs h => CD.out A c W hs h 3 (by rw [hok]; rfl)
       rw [er_ne (show (3 : Nat) ≠ 0 by decide)] at CD3
       go_upto_region 9 with (first
         | (go_at_call 128; go_must (refine (C6.out _ _ (HS.out _ HR.out.bel) HR.out.rd).mono ?_; rintro y w6 ⟨v6, A6, c6, rfl, hX, hr, hg⟩; have H6 := jI (jA (HR.out.read hr hg) (show Bys w6 (.slice A6 m6 c6) x6 from hX.mono fun q hq => hq.2)); clear hr hg hX))
         | (go_at_call 127; go_must (refine (CD3.out A6 c6 w6 (HS.out _ H6.out.1.bel) H6.out.2).mono ?_; rintro y w7 ⟨A7, c7, rfl, -, hb⟩; have H7 := jI (H6.out.1.more hb); clear hb)))
       have TZ := H7.out.z
       unfold z7 at TZ
       obtain ⟨z0, z1, z2, z3, z4, z5, z6⟩ := H7.out.cells
       have f0 := frozen_own TZ 0; have f1 := frozen_own TZ 1; have f2 := frozen_own TZ 2; have f3 := frozen_own TZ 3; have f4 := frozen_own TZ 4; have f5 := frozen_own TZ 5; have f6 := frozen_own TZ 6
       go_wp2_with fail
       obtain ⟨F, hF, hE, hbQ, hoth, hsF⟩ := put7 TZ (.int .i64 0) (.int .i64 0) (.int .i64 0) (.int .i64 0) (.slice none 0 0) (.slice none 0 0) (.slice none 0 0)
       rw [← hF]
       clear hF z0 z1 z2 z3 z4 z5 z6
       obtain ⟨z0, z1, z2, z3, z4, z5, z6⟩ := cells7 hE
       exact bodyPost_ret (v := .tuple #[.int .i64 0, .agg #[.int .i64 0, .int .i64 0, .int .i64 0, .int .i64 0, .slice none 0 0, .slice none 0 0, .slice none 0 0], .iface 69 (.int .i64 3)]) (by simp [results, Tryz.results112, go_sem, z0, z1, z2, z3, z4, z5, z6]) rfl ⟨0, stz, plz, _, rfl, H7.out.bel.trans (hbQ _ HG.out.2), Or.inl ⟨⟨3, rfl⟩, by rw [HR0.out]; simp [hok]⟩⟩
     | true =>
       have CD3 := jI fun A c W hs h => CD.out A c W hs h 0 (by rw [hok]; rfl)
       rw [er_zero] at CD3
       go_upto_region 8 with (first
         | (go_at_call 128; go_must (refine (C6.out _ _ (HS.out _ HR.out.bel) HR.out.rd).mono ?_; rintro y w6 ⟨v6, A6, c6, rfl, hX, hr, hg⟩; have H6 := jI (jA (HR.out.read hr hg) (show Bys w6 (.slice A6 m6 c6) x6 from hX.mono fun q hq => hq.2)); clear hr hg hX))
         | (go_at_call 127; go_must (refine (CD3.out A6 c6 w6 (HS.out _ H6.out.1.bel) H6.out.2).mono ?_; rintro y w7 ⟨A7, c7, rfl, ho, hb⟩; have hI : IntsT w7 (fun q => g + 2 ≤ q ∧ q < w7.heap.size) (.slice A7 mC c7) (decC x6) := RowT.of_own (by rw [← HN.out.2.2.1]; exact ho) _ fun q hq => ⟨by have := (ho.lt q hq).1; have := H6.out.1.lt; omega, (ho.lt q hq).2⟩; have H7 := jI (jA (H6.out.1.more hb) hI); clear hb ho hI)))
       have HOK := jI hok
       clear hok CD CD3 C6 H6 HR
       go_wp2_with (first
         | (go_at_call 128; go_must (refine (C7.out _ _ (HS.out _ H7.out.1.bel) H7.out.1.rd).mono ?_; rintro y w8 ⟨v8, A8, c8, rfl, hX, hr, hg⟩; have hI : IntsT w8 (fun q => g + 2 ≤ q ∧ q < w8.heap.size) (.slice A7 mC c7) (decC x6) := (RowT.kept H7.out.2 fun q hq _ => hg.block q hq.2 (by intro e; injection e with e; have := hq.1; have := H7.out.1.hp; omega)).mono fun q hq => ⟨hq.1, Nat.lt_of_lt_of_le hq.2 hg.size⟩; have H8 := jI (jA (H7.out.1.read hr hg) (jA hI (show SlT w8 (fun q => g + 2 ≤ q ∧ q < w8.heap.size) (.slice A8 m7 c8) x7 from hX.mono fun q hq => ⟨by have := hq.1; have := H7.out.1.lt; omega, hq.2⟩))); clear hr hg hX hI))
         | (go_at_call 129; go_must (refine (C8.out _ _ (HS.out _ H8.out.1.bel) H8.out.1.rd).mono ?_; rintro y w9 ⟨v9, rfl, hr, hg⟩; have hI : IntsT w9 (fun q => g + 2 ≤ q ∧ q < w9.heap.size) (.slice A7 mC c7) (decC x6) := (RowT.kept H8.out.2.1 fun q hq _ => hg.block q hq.2 (by intro e; injection e with e; have := hq.1; have := H8.out.1.hp; omega)).mono fun q hq => ⟨hq.1, Nat.lt_of_lt_of_le hq.2 hg.size⟩; have hX : SlT w9 (fun q => g + 2 ≤ q ∧ q < w9.heap.size) (.slice A8 m7 c8) x7 := (SlT.kept H8.out.2.2 fun q hq _ => hg.block q hq.2 (by intro e; injection e with e; have := hq.1; have := H8.out.1.hp; omega)).mono fun q hq => ⟨hq.1, Nat.lt_of_lt_of_le hq.2 hg.size⟩; have H9 := jI (jA (H8.out.1.read hr hg) (jA hI hX)); clear hr hg hX hI)))
       obtain ⟨CB, hCB⟩ : ∃ C, C = w9.heap.size := ⟨_, rfl⟩
       have HCB := jI (jA hCB (show g + 1 < CB by rw [hCB]; exact H9.out.1.lt))
       clear hCB C7 C8 H7 H8
       go_loopw [10, 37] (fun va ii wr => ∃ (j : Nat) (es : List En) (s : List UInt8) (k : Nat) (v' : Value), ii = .int .i64 (j : Int) ∧ es.length = j ∧ Hid ((Dz w0 p g wr v' s k #[.int .i64 (nm1 : Int), .int .i64 (nm2 : Int), .int .i64 (nm3 : Int), .int .i64 (nm4 : Int), .int .i64 (nm5 : Int)] ∧ IntsT wr (Tz g CB) (.slice A7 mC c7) (decC x6) ∧ SlT wr (Tz g CB) (.slice A8 m7 c8) x7 ∧ OwnE wr CB (fun q => CB ≤ q) 151 va es) ∧ CB ≤ wr.heap.size ∧ LD cnt j s k true es sF kF okF esF ∧ (∀ e ∈ es, e.data.length ≤ 4096) ∧ s.length ≤ 140737488355328)) (fun _ ii _ => cnt - (intOf ii).toNat)
       case atStart => exact ⟨0, [], s8, k8, v9, rfl, rfl, jI ⟨⟨H9.out.1, H9.out.2.1.mono fun q hq => ⟨hq.1, by rw [HCB.out.1]; exact hq.2⟩, H9.out.2.2.mono fun q hq => ⟨hq.1, by rw [HCB.out.1]; exact hq.2⟩, OwnE.nil_ _ _ _ _⟩, Nat.le_of_eq HCB.out.1, HLD.out, (fun e he => by cases he), HN.out.2.1⟩⟩
       case round =>
         obtain ⟨j, es, s, k, v', rfl, hes, HR⟩ := hrel
         obtain ⟨Av, cv, rfl, -, -⟩ := HR.out.1.2.2.2.form hes
         clear H9
         by_cases hlt : j < cnt
         · have i1 : (j : Int) < (cnt : Int) := by omega
           rcases hrb : rBytes 98 4200 (s, k) with ⟨⟨t1, q1⟩, x⟩
           rcases hde : decE x with ⟨e, f⟩
           have hsh := rBytes_short hrb HR.out.2.2.2.2
           obtain ⟨mx, hmx⟩ : ∃ mx, mx = x.length := ⟨_, rfl⟩
           obtain ⟨me, hme⟩ : ∃ me, me = e.data.length := ⟨_, rfl⟩
           have CR := jI (Bytes_s p 4200 (by omega) s k HR.out.2.2.2.2 t1 q1 x hrb mx hmx v' wr (HS.out _ HR.out.1.1.bel) HR.out.1.1.rd)
           have CE := jI fun A c W hs h => EDec_any A mx c x W hs h (by rw [hmx]; exact hsh.2) e f hde me hme
           have hfk := decE_kind x
           rw [hde] at hfk
           have HX := jI (jA hsh.1 (jA hme (jA hes hlt)))
           have HP := jI (jA hrb hde)
           clear hrb hde hsh hmx hme hes hlt
           rcases (show f = 3 ∨ f = 0 from by rcases hfk with h1 | h1; exact Or.inr h1; exact Or.inl h1) with rfl | rfl
           · have hbad := jI (ld_badS HR.out.2.2.1 HX.out.2.2.2 HP.out.1 HP.out.2 (by decide))
             rw [er_ne (show (3 : Nat) ≠ 0 by decide)] at CE
             clear hfk
             go_upto_region 16 with (first
               | (go_at_call 128; go_must (refine CR.out.mono ?_; rintro y w5 ⟨vr5, Ax, cx, rfl, hX, hr, hg⟩; have H5 := jI (jA (HR.out.1.1.read hr hg) (show Bys w5 (.slice Ax mx cx) x from hX.mono fun q hq => hq.2)); clear hr hg hX))
               | (go_at_call 130; go_must (refine (CE.out Ax cx w5 (HS.out _ H5.out.1.bel) H5.out.2).mono ?_; rintro y w6 ⟨A6, c6, rfl, -, hb⟩; have hb7 := hb.alloc hb.size (.cells #[.int .i64 e.index, .int .i64 e.term, .int .i64 e.kind, .slice A6 me c6] 151); have H7 := jI (H5.out.1.more hb7); clear hb hb7)))
             have TZ := H7.out.z
             unfold z7 at TZ
             obtain ⟨z0, z1, z2, z3, z4, z5, z6⟩ := H7.out.cells
             have f0 := frozen_own TZ 0; have f1 := frozen_own TZ 1; have f2 := frozen_own TZ 2; have f3 := frozen_own TZ 3; have f4 := frozen_own TZ 4; have f5 := frozen_own TZ 5; have f6 := frozen_own TZ 6
             go_wp2_with fail
             obtain ⟨F, hF, hE, hbQ, hoth, hsF⟩ := put7 TZ (.int .i64 0) (.int .i64 0) (.int .i64 0) (.int .i64 0) (.slice none 0 0) (.slice none 0 0) (.slice none 0 0)
             rw [← hF]
             clear hF z0 z1 z2 z3 z4 z5 z6
             obtain ⟨z0, z1, z2, z3, z4, z5, z6⟩ := cells7 hE
             exact bodyPost_ret (v := .tuple #[.int .i64 0, .agg #[.int .i64 0, .int .i64 0, .int .i64 0, .int .i64 0, .slice none 0 0, .slice none 0 0, .slice none 0 0], .iface 69 (.int .i64 3)]) (by simp [results, Tryz.results112, go_sem, z0, z1, z2, z3, z4, z5, z6]) rfl ⟨0, stz, plz, _, rfl, H7.out.bel.trans (hbQ _ HG.out.2), Or.inl ⟨⟨3, rfl⟩, by rw [HR0.out]; have := hbad.out; simp only [HOK.out, Bool.true_and]; exact this⟩⟩
           · have hk0 : k = 0 := by
               by_cases hk : k = 0
               · exact hk
               · exfalso
                 have h1 := rBytes_stopS HP.out.1 hk
                 have h2 := HP.out.2
                 rw [h1] at h2
                 have h3 := decE_nilS
                 rw [h2] at h3
                 cases h3
             subst hk0
             have hL := ld_next HR.out.2.2.1 HX.out.2.2.2 HP.out.1 HP.out.2
             rw [decide_eq_true (rfl : (0 : Nat) = 0), Bool.and_true] at hL
             have hfit : e.data.length ≤ 4096 := by
               have h1 := (decE_inv (b := x) (by rw [HP.out.2])).2
               rw [HP.out.2] at h1
               exact (fitM_iff.1 h1).2.2.2.2.2.2
             have HL := jI (jA hL hfit)
             rw [er_zero] at CE
             clear hL hfit hfk
             go_upto_region 15 with (first
               | (go_at_call 128; go_must (refine CR.out.mono ?_; rintro y w5 ⟨vr5, Ax, cx, rfl, hX, hr, hg⟩; have hne : ∀ q, g + 2 ≤ q → some q ≠ some p := (fun q hq e => by injection e with e; have := HR.out.1.1.hp; omega); have hI : IntsT w5 (Tz g CB) (.slice A7 mC c7) (decC x6) := RowT.kept HR.out.1.2.1 fun q hq hl => hg.block q hl (hne q hq.1); have hT : SlT w5 (Tz g CB) (.slice A8 m7 c8) x7 := SlT.kept HR.out.1.2.2.1 fun q hq hl => hg.block q hl (hne q hq.1); have hO : OwnE w5 CB (fun q => CB ≤ q) 151 (.slice Av j cv) es := HR.out.1.2.2.2.kept (fun q hq ho => hg.block q hq (hne q (by have := HCB.out.2; rcases ho with h2 | h2; (have h3 : CB ≤ q := h2; omega); (have h3 := (HR.out.1.2.2.2.lt q h2).1; omega)))) hg.size; have H5 := jI (jA (HR.out.1.1.read hr hg) (jA hI (jA hT (jA hO (jA (show Bys w5 (.slice Ax mx cx) x from hX.mono fun q hq => hq.2) (show CB ≤ w5.heap.size from Nat.le_trans HR.out.2.1 hg.size)))))); have HSZ := jI hg.size; clear hr hg hX hI hT hO hne))
               | (go_at_call 130; go_must (refine (CE.out Ax cx w5 (HS.out _ H5.out.1.bel) H5.out.2.2.2.2.1).mono ?_; rintro y w6 ⟨A6, c6, rfl, hdat, hb⟩; have H6 := jI (jA hdat hb); clear hb hdat)))
             obtain ⟨V2, q2, hV2, hq2, hb2, hE2, hsz2⟩ := one_box w6 (.cells #[.int .i64 e.index, .int .i64 e.term, .int .i64 e.kind, .slice A6 me c6] 151)
             rw [← hV2, ← hq2]
             have hb7 : Below w5.heap.size w5 V2 := H6.out.2.trans (hb2.mono H6.out.2.size)
             have H7 := jI (jA (H5.out.1.more hb7) (jA (show IntsT V2 (Tz g CB) (.slice A7 mC c7) (decC x6) from RowT.kept H5.out.2.1 fun q _ hl => hb7.block q hl) (jA (show SlT V2 (Tz g CB) (.slice A8 m7 c8) x7 from SlT.kept H5.out.2.2.1 fun q _ hl => hb7.block q hl) (jA (H5.out.2.2.2.1.more hb7)
               (jA (show SlT V2 (fun q => w5.heap.size ≤ q ∧ q < V2.heap.size) (.slice A6 me c6) e.data from (H6.out.1.kept fun q hq _ => hb2.block q hq.2).mono fun q hq => ⟨hq.1, Nat.lt_of_lt_of_le hq.2 hb2.size⟩) (show CB ≤ V2.heap.size from Nat.le_trans H5.out.2.2.2.2.2 hb7.size))))))
             obtain ⟨e0, e1, e2, e3⟩ := cells4 hE2
             clear hV2 hq2 hb2 hE2 hsz2 hb7
             go_upto_region 17 with fail
             go_upto_region 18 with (at_builtin; go_must (refine wpList_pushE (B := CB) (Q := fun q => CB ≤ q) (t := 151) (l := es) (H7.out.2.2.2.1.more (below_alloc V2 _)) rfl _ _ 29 Tryz.underlying29 info_ent rfl rfl V2.heap.size e A6 c6 rfl ?c0 ?c1 ?c2 ?c3 ?c4))
             case c0 => rw [← HX.out.2.1]; exact heap_alloc_new V2 _
             case c1 =>
               rw [← HX.out.2.1]
               refine (H7.out.2.2.2.2.1.kept fun k hk _ => heap_alloc_old _ _ hk.2).mono fun k hk => ⟨Nat.le_trans H5.out.2.2.2.2.2 hk.1, by rw [World.size_alloc]; have := hk.2; omega, fun e' => ?_⟩
               have h1 := (HR.out.1.2.2.2.lt k e').2
               have h2 := HSZ.out
               have h3 := hk.1
               omega
             case c2 => have h1 := HX.out.2.2.1; have h2 := HX.out.2.2.2; have h3 := HN.out.1; omega
             case c3 => have h1 := H7.out.2.2.2.2.2; rw [World.size_alloc]; omega
             case c4 =>
               intro v2' w' ho' hg' _
               have hb5 : Below CB V2 w' := ((below_alloc V2 (Obj.cells #[.int .i64 e.index, .int .i64 e.term, .int .i64 e.kind, .slice A6 me c6] 151)).mono H7.out.2.2.2.2.2).trans ((Below.refl CB _).grown hg' (by rw [World.size_alloc]; have := H7.out.2.2.2.2.2; omega) fun k hk => (H7.out.2.2.2.1.lt k hk).1)
               have HF := jI (jA (H7.out.1.low hb5 HCB.out.2) (jA (show IntsT w' (Tz g CB) (.slice A7 mC c7) (decC x6) from RowT.kept H7.out.2.1 fun q hq _ => hb5.block q hq.2) (jA (show SlT w' (Tz g CB) (.slice A8 m7 c8) x7 from SlT.kept H7.out.2.2.1 fun q hq _ => hb5.block q hq.2) ho')))
               have HF2 := jI (show CB ≤ w'.heap.size from Nat.le_trans H7.out.2.2.2.2.2 hb5.size)
               clear ho' hg' hb5
               have hjj := HX.out.2.2.2
               have hcc := HN.out.1
               go_wp2_with fail
               go_roundw
               case rel => exact ⟨j + 1, es ++ [e], t1, q1, vr5, by go_num, by rw [List.length_append, HX.out.2.2.1]; rfl, jI ⟨HF.out, HF2.out, HL.out.1, (fun y hy => by rcases List.mem_append.mp hy with h1 | h1; exact HR.out.2.2.2.1 y h1; rw [List.mem_singleton.mp h1]; exact HL.out.2), HX.out.1⟩⟩
               case measure => have := HX.out.2.2.2; simp [intOf]; omega
         · have hjc : j = cnt := by have := HR.out.2.2.1.le; omega
           obtain ⟨rfl, rfl, rfl, rfl⟩ := ld_end HR.out.2.2.1 (Or.inl hjc)
           have i1 : ¬ ((j : Int) < (cnt : Int)) := by omega
           obtain ⟨d, hd⟩ : ∃ d, d = doneR (s, k) := ⟨_, rfl⟩
           have HDD := jI (Done_s p s k d hd v' wr HR.out.1.1.rd)
           have n1 := HR.out.1.1.num 1
           have n2 := HR.out.1.1.num 2
           have n3 := HR.out.1.1.num 3
           have n4 := HR.out.1.1.num 4
           simp only [List.getElem?_toArray, List.getElem?_cons_succ, List.getElem?_cons_zero] at n1 n2 n3 n4
           have HJ := jI (jA hes (jA hjc hd))
           clear hes hjc hd
           go_upto_region 20 with fail
           obtain ⟨V3, gb, hV3, hgb, hb3, hq3, hsz3⟩ := one_box wr (.cells #[.int .i64 (nm2 : Int), .int .i64 (nm3 : Int), .int .i64 (nm4 : Int), .int .i64 (nm5 : Int), .slice Av j cv, .slice A7 mC c7, .slice A8 m7 c8] 35)
           rw [← hV3, ← hgb]
           have H13 := jI (jA (jA hq3 (jA hgb hb3)) (jA (HR.out.1.1.more hb3) HR.out.1.2))
           have HDD := jI fun W h => Done_s p s k d HJ.out.2.2 v' W h
           clear hV3 hgb hb3 hq3 hsz3 n1 n2 n3 n4
           by_cases hd0 : d = 0
           · subst hd0
             rw [show ev 0 = .nilIface from rfl] at HDD
             refine wp_region_held_drew (S := fun W => W.heap[g + 1]? = some (.cells #[.int .i64 (nm1 : Int), .int .i64 (nm2 : Int), .int .i64 (nm3 : Int), .int .i64 (nm4 : Int), .int .i64 (nm5 : Int)] 146 (0, 0)) ∧ W.heap[gb]? = some (.cells #[.int .i64 (nm2 : Int), .int .i64 (nm3 : Int), .int .i64 (nm4 : Int), .int .i64 (nm5 : Int), .slice Av j cv, .slice A7 mC c7, .slice A8 m7 c8] 35 (0, 0))) (by kernel_rfl) ⟨H13.out.2.1.n, H13.out.1.1⟩ (fun hHeld => ?_)
             refine wpAnyH_take (i := 0) (oi := { dst := Option.some 67, op := Op.indexAddr 146 (Operand.tmp 5) (Operand.const (Value.int IntKind.i64 0)), type := 0, pos := "bytes.go:75", after := #[], guard := Option.none }) (v := .pointer (some ⟨g + 1, 0, none⟩)) rfl (by kernel_rfl) (by kernel_rfl) (by kernel_rfl) (fun _ _ _ h => h) (Or.inl ⟨by rfl, ?_⟩) hHeld ?_
             · intro W hSw
               go_simp
             simp only [Act.put, qA, qB, qC]
             refine wpAnyH_take (i := 1) (oi := { dst := Option.some 68, op := Op.load 3 (Operand.tmp 67), type := 3, pos := "bytes.go:75", after := #[{ on := 0, ground := Ground.data }], guard := Option.none }) (v := .int .i64 (nm1 : Int)) rfl (by kernel_rfl) (by kernel_rfl) (by kernel_rfl) (fun _ _ _ h => h) (Or.inl ⟨by rfl, ?_⟩) hHeld ?_
             · intro W hSw
               have y0 := cell_of_row W (g + 1) 0 _ _ (0, 0) hSw.1; simp only [List.getElem?_toArray, List.getElem?_cons_zero] at y0
               go_simp
             simp only [Act.put, qA, qB, qC]
             refine wpAnyH_take (i := 2) (oi := { dst := Option.some 69, op := Op.load 35 (Operand.tmp 13), type := 35, pos := "bytes.go:75", after := #[{ on := 5, ground := Ground.gcOnly Departure.lateStores }], guard := Option.none }) (v := .agg #[.int .i64 (nm2 : Int), .int .i64 (nm3 : Int), .int .i64 (nm4 : Int), .int .i64 (nm5 : Int), .slice Av j cv, .slice A7 mC c7, .slice A8 m7 c8]) rfl (by kernel_rfl) (by kernel_rfl) (by kernel_rfl) (fun _ _ _ h => h) (Or.inl ⟨by rfl, ?_⟩) hHeld ?_
             · intro W hSw
               obtain ⟨y0, y1, y2, y3, y4, y5, y6⟩ := cells7 hSw.2
               go_simp
             simp only [Act.put, qA, qB, qC]
             refine wpAnyH_take (i := 3) (oi := { dst := Option.some 70, op := Op.move (Operand.tmp 0), type := 216, pos := "bytes.go:75", after := #[], guard := Option.none }) (v := .pointer (some ⟨p, 0, none⟩)) rfl (by kernel_rfl) (by kernel_rfl) (by kernel_rfl) (fun _ _ _ h => h) (Or.inl ⟨by rfl, ?_⟩) hHeld ?_
             · intro W hSw
               go_simp
             simp only [Act.put, qA, qB, qC]
             refine wpAnyH_ready (rs := [4]) (by kernel_rfl) (by simp) ?_
             refine AllReadyH.cons (o := { dst := Option.some 71, op := Op.call { callee := Callee.value (Operand.func 131), args := #[Operand.tmp 70], argTypes := #[216] }, type := 27, pos := "bytes.go:75", after := #[{ on := 3, ground := Ground.data }], guard := Option.none }) rfl (fun K hK => ?_) AllReadyH.nil
             go_simp
             refine (HDD.out V3.drew H13.out.2.1.rd).mono ?_
             rintro y V4 ⟨rfl, hV4⟩
             have H14 := jI (show (V4.heap[g + 1]? = some (.cells #[.int .i64 (nm1 : Int), .int .i64 (nm2 : Int), .int .i64 (nm3 : Int), .int .i64 (nm4 : Int), .int .i64 (nm5 : Int)] 146 (0, 0)) ∧ V4.heap[gb]? = some (.cells #[.int .i64 (nm2 : Int), .int .i64 (nm3 : Int), .int .i64 (nm4 : Int), .int .i64 (nm5 : Int), .slice Av j cv, .slice A7 mC c7, .slice A8 m7 c8] 35 (0, 0))) ∧ V4.heap[g]? = some (.cells z7 35 (0, 0)) ∧ Below V3.heap.size V3 V4 ∧ V4.heap = V3.heap from by rw [← hV4]; exact ⟨⟨H13.out.2.1.n, H13.out.1.1⟩, H13.out.2.1.z, (Below.refl _ _).drew, rfl⟩)
             clear hV4
             refine hK.out _ _ H14.out.1 (fun hHeld2 => ?_)
             clear hK K hHeld
             have hHeld := hHeld2
             clear hHeld2
             refine wpAnyH_take (i := 5) (oi := { dst := Option.some 2, op := Op.assign (Operand.tmp 68), type := 3, pos := "bytes.go:75", after := #[{ on := 1, ground := Ground.data }, { on := 4, ground := Ground.chain }, { on := 0, ground := Ground.phase }, { on := 1, ground := Ground.phase }, { on := 2, ground := Ground.textOnly Departure.lateStores }, { on := 3, ground := Ground.textOnly Departure.lateStores }, { on := 4, ground := Ground.textOnly Departure.lateStoresUnsure }], guard := Option.none }) (v := .int .i64 (nm1 : Int)) rfl (by kernel_rfl) (by kernel_rfl) (by kernel_rfl) (fun _ _ _ h => h) (Or.inl ⟨by rfl, ?_⟩) hHeld ?_
             · intro W hSw
               go_simp
             simp only [Act.put, qA, qB, qC]
             have TZ : V4.heap[g]? = some (.cells #[.int .i64 0, .int .i64 0, .int .i64 0, .int .i64 0, .slice none 0 0, .slice none 0 0, .slice none 0 0] 35 (0, 0)) := H14.out.2.1
             obtain ⟨z0, z1, z2, z3, z4, z5, z6⟩ := cells7 TZ
             have f0 := frozen_own TZ 0; have f1 := frozen_own TZ 1; have f2 := frozen_own TZ 2; have f3 := frozen_own TZ 3; have f4 := frozen_own TZ 4; have f5 := frozen_own TZ 5; have f6 := frozen_own TZ 6
             refine wpAnyH_ready (rs := [6]) (by kernel_rfl) (by simp) ?_
             refine AllReadyH.cons (o := { dst := Option.none, op := Op.store 35 (Operand.tmp 3) (Operand.tmp 69), type := 0, pos := "bytes.go:75", after := #[{ on := 2, ground := Ground.data }, { on := 5, ground := Ground.chain }, { on := 0, ground := Ground.phase }, { on := 1, ground := Ground.phase }, { on := 2, ground := Ground.phase }, { on := 3, ground := Ground.textOnly Departure.lateStores }, { on := 4, ground := Ground.textOnly Departure.lateStoresUnsure }, { on := 5, ground := Ground.phase }], guard := Option.none }) rfl (fun K hK => ?_) AllReadyH.nil
             go_simp
             obtain ⟨F, hF, hE, hbQ, hoth, hsF⟩ := put7 TZ (.int .i64 (nm2 : Int)) (.int .i64 (nm3 : Int)) (.int .i64 (nm4 : Int)) (.int .i64 (nm5 : Int)) (.slice Av j cv) (.slice A7 mC c7) (.slice A8 m7 c8)
             rw [← hF]
             have H15 := jI (jA hE (jA hbQ (jA hoth hsF)))
             clear hF z0 z1 z2 z3 z4 z5 z6 f0 f1 f2 f3 f4 f5 f6 TZ hE hbQ hoth hsF
             refine hK.out _ _ ⟨(H15.out.2.2.1 (g + 1) (by omega)).trans H14.out.1.1, (H15.out.2.2.1 gb (by have h1 := H13.out.1.2.1; have h2 := HR.out.1.1.lt; omega)).trans H14.out.1.2⟩ (fun hHeld2 => ?_)
             clear hK K hHeld
             have hHeld := hHeld2
             clear hHeld2
             refine wpAnyH_take (i := 7) (oi := { dst := Option.some 4, op := Op.assign (Operand.tmp 71), type := 27, pos := "bytes.go:75", after := #[{ on := 4, ground := Ground.data }, { on := 6, ground := Ground.chain }, { on := 0, ground := Ground.phase }, { on := 1, ground := Ground.phase }, { on := 2, ground := Ground.phase }, { on := 3, ground := Ground.phase }, { on := 4, ground := Ground.phase }, { on := 5, ground := Ground.phase }, { on := 6, ground := Ground.phase }], guard := Option.none }) (v := .nilIface) rfl (by kernel_rfl) (by kernel_rfl) (by kernel_rfl) (fun _ _ _ h => h) (Or.inl ⟨by rfl, ?_⟩) hHeld ?_
             · intro W hSw
               go_simp
             simp only [Act.put, qA, qB, qC]
             clear hHeld
             refine wpAnyH_done (by kernel_rfl) ?_ _
             have hbF : Below w0.heap.size w0 F := H13.out.2.1.bel.trans ((H14.out.2.2.1.mono H13.out.2.1.bel.size).trans (H15.out.2.1 _ HG.out.2))
             obtain ⟨z0, z1, z2, z3, z4, z5, z6⟩ := cells7 H15.out.1
             go_wp2_with fail
             refine bodyPost_ret (v := .tuple #[.int .i64 (nm1 : Int), .agg #[.int .i64 (nm2 : Int), .int .i64 (nm3 : Int), .int .i64 (nm4 : Int), .int .i64 (nm5 : Int), .slice Av j cv, .slice A7 mC c7, .slice A8 m7 c8], .nilIface]) (by simp [results, Tryz.results112, go_sem, z0, z1, z2, z3, z4, z5, z6]) rfl ?_
             have hk : ∀ k, CB ≤ k → k < wr.heap.size → F.heap[k]? = wr.heap[k]? := fun k hk hk2 => by
               have h1 := HCB.out.2
               rw [H15.out.2.2.1 k (by omega), H14.out.2.2.2, ← H13.out.1.2.2.block k hk2]
             have hk2 : ∀ k, g + 2 ≤ k → k < wr.heap.size → F.heap[k]? = wr.heap[k]? := fun k hk hk2 => by
               rw [H15.out.2.2.1 k (by omega), H14.out.2.2.2, ← H13.out.1.2.2.block k hk2]
             have hsz : wr.heap.size ≤ F.heap.size := by rw [H15.out.2.2.2, H14.out.2.2.2]; exact H13.out.1.2.2.size
             have hg0 := HG.out.2
             have hcb := HCB.out.2
             refine ⟨(nm1 : Int), ⟨(nm2 : Int), (nm3 : Int), ⟨(nm4 : Int), (nm5 : Int), es⟩, decC x6, x7⟩, ⟨Av, j, cv, A7, mC, c7, A8, m7, c8, none, 0, 0, none, none, 0, 0⟩, .nilIface, rfl, hbF, Or.inr ⟨rfl, ?_, by rw [HR0.out], by rw [HR0.out], ⟨?_, ?_, ?_⟩, fun e he => ⟨?_, ?_⟩⟩⟩
             · rw [HR0.out]; simp only [HOK.out, ← HJ.out.2.2, Bool.true_and]; decide
             · refine (HR.out.1.2.2.2.entsT (fun k => g + 2 ≤ k ∧ k < wr.heap.size) (fun k h1 h2 => ⟨by have h3 : CB ≤ k := h1; omega, h2⟩) (fun k h1 h2 => ⟨by omega, h2⟩)).move (fun k h1 h2 => hk2 k h1.1 h2) fun k h1 => ⟨by omega, by omega⟩
             · exact (RowT.kept HR.out.1.2.1 fun k h1 h2 => hk2 k h1.1 h2).mono fun k h1 => ⟨by have := h1.1; omega, by have := h1.2; have := HR.out.2.1; omega⟩
             · exact (SlT.kept HR.out.1.2.2.1 fun k h1 h2 => hk2 k h1.1 h2).mono fun k h1 => ⟨by have := h1.1; omega, by have := h1.2; have := HR.out.2.1; omega⟩
             · exact HR.out.2.2.1.fit e he
             · exact HR.out.2.2.2.1 e he
           · rw [ev_ne hd0] at HDD
             refine wp_region_held_drew (S := fun W => W.heap[g + 1]? = some (.cells #[.int .i64 (nm1 : Int), .int .i64 (nm2 : Int), .int .i64 (nm3 : Int), .int .i64 (nm4 : Int), .int .i64 (nm5 : Int)] 146 (0, 0)) ∧ W.heap[gb]? = some (.cells #[.int .i64 (nm2 : Int), .int .i64 (nm3 : Int), .int .i64 (nm4 : Int), .int .i64 (nm5 : Int), .slice Av j cv, .slice A7 mC c7, .slice A8 m7 c8] 35 (0, 0))) (by kernel_rfl) ⟨H13.out.2.1.n, H13.out.1.1⟩ (fun hHeld => ?_)
             refine wpAnyH_take (i := 0) (oi := { dst := Option.some 67, op := Op.indexAddr 146 (Operand.tmp 5) (Operand.const (Value.int IntKind.i64 0)), type := 0, pos := "bytes.go:75", after := #[], guard := Option.none }) (v := .pointer (some ⟨g + 1, 0, none⟩)) rfl (by kernel_rfl) (by kernel_rfl) (by kernel_rfl) (fun _ _ _ h => h) (Or.inl ⟨by rfl, ?_⟩) hHeld ?_
             · intro W hSw
               go_simp
             simp only [Act.put, qA, qB, qC]
             refine wpAnyH_take (i := 1) (oi := { dst := Option.some 68, op := Op.load 3 (Operand.tmp 67), type := 3, pos := "bytes.go:75", after := #[{ on := 0, ground := Ground.data }], guard := Option.none }) (v := .int .i64 (nm1 : Int)) rfl (by kernel_rfl) (by kernel_rfl) (by kernel_rfl) (fun _ _ _ h => h) (Or.inl ⟨by rfl, ?_⟩) hHeld ?_
             · intro W hSw
               have y0 := cell_of_row W (g + 1) 0 _ _ (0, 0) hSw.1; simp only [List.getElem?_toArray, List.getElem?_cons_zero] at y0
               go_simp
             simp only [Act.put, qA, qB, qC]
             refine wpAnyH_take (i := 2) (oi := { dst := Option.some 69, op := Op.load 35 (Operand.tmp 13), type := 35, pos := "bytes.go:75", after := #[{ on := 5, ground := Ground.gcOnly Departure.lateStores }], guard := Option.none }) (v := .agg #[.int .i64 (nm2 : Int), .int .i64 (nm3 : Int), .int .i64 (nm4 : Int), .int .i64 (nm5 : Int), .slice Av j cv, .slice A7 mC c7, .slice A8 m7 c8]) rfl (by kernel_rfl) (by kernel_rfl) (by kernel_rfl) (fun _ _ _ h => h) (Or.inl ⟨by rfl, ?_⟩) hHeld ?_
             · intro W hSw
               obtain ⟨y0, y1, y2, y3, y4, y5, y6⟩ := cells7 hSw.2
               go_simp
             simp only [Act.put, qA, qB, qC]
             refine wpAnyH_take (i := 3) (oi := { dst := Option.some 70, op := Op.move (Operand.tmp 0), type := 216, pos := "bytes.go:75", after := #[], guard := Option.none }) (v := .pointer (some ⟨p, 0, none⟩)) rfl (by kernel_rfl) (by kernel_rfl) (by kernel_rfl) (fun _ _ _ h => h) (Or.inl ⟨by rfl, ?_⟩) hHeld ?_
             · intro W hSw
               go_simp
             simp only [Act.put, qA, qB, qC]
             refine wpAnyH_ready (rs := [4]) (by kernel_rfl) (by simp) ?_
             refine AllReadyH.cons (o := { dst := Option.some 71, op := Op.call { callee := Callee.value (Operand.func 131), args := #[Operand.tmp 70], argTypes := #[216] }, type := 27, pos := "bytes.go:75", after := #[{ on := 3, ground := Ground.data }], guard := Option.none }) rfl (fun K hK => ?_) AllReadyH.nil
             go_simp
             refine (HDD.out V3.drew H13.out.2.1.rd).mono ?_
             rintro y V4 ⟨rfl, hV4⟩
             have H14 := jI (show (V4.heap[g + 1]? = some (.cells #[.int .i64 (nm1 : Int), .int .i64 (nm2 : Int), .int .i64 (nm3 : Int), .int .i64 (nm4 : Int), .int .i64 (nm5 : Int)] 146 (0, 0)) ∧ V4.heap[gb]? = some (.cells #[.int .i64 (nm2 : Int), .int .i64 (nm3 : Int), .int .i64 (nm4 : Int), .int .i64 (nm5 : Int), .slice Av j cv, .slice A7 mC c7, .slice A8 m7 c8] 35 (0, 0))) ∧ V4.heap[g]? = some (.cells z7 35 (0, 0)) ∧ Below V3.heap.size V3 V4 ∧ V4.heap = V3.heap from by rw [← hV4]; exact ⟨⟨H13.out.2.1.n, H13.out.1.1⟩, H13.out.2.1.z, (Below.refl _ _).drew, rfl⟩)
             clear hV4
             refine hK.out _ _ H14.out.1 (fun hHeld2 => ?_)
             clear hK K hHeld
             have hHeld := hHeld2
             clear hHeld2
             refine wpAnyH_take (i := 5) (oi := { dst := Option.some 2, op := Op.assign (Operand.tmp 68), type := 3, pos := "bytes.go:75", after := #[{ on := 1, ground := Ground.data }, { on := 4, ground := Ground.chain }, { on := 0, ground := Ground.phase }, { on := 1, ground := Ground.phase }, { on := 2, ground := Ground.textOnly Departure.lateStores }, { on := 3, ground := Ground.textOnly Departure.lateStores }, { on := 4, ground := Ground.textOnly Departure.lateStoresUnsure }], guard := Option.none }) (v := .int .i64 (nm1 : Int)) rfl (by kernel_rfl) (by kernel_rfl) (by kernel_rfl) (fun _ _ _ h => h) (Or.inl ⟨by rfl, ?_⟩) hHeld ?_
             · intro W hSw
               go_simp
             simp only [Act.put, qA, qB, qC]
             have TZ : V4.heap[g]? = some (.cells #[.int .i64 0, .int .i64 0, .int .i64 0, .int .i64 0, .slice none 0 0, .slice none 0 0, .slice none 0 0] 35 (0, 0)) := H14.out.2.1
             obtain ⟨z0, z1, z2, z3, z4, z5, z6⟩ := cells7 TZ
             have f0 := frozen_own TZ 0; have f1 := frozen_own TZ 1; have f2 := frozen_own TZ 2; have f3 := frozen_own TZ 3; have f4 := frozen_own TZ 4; have f5 := frozen_own TZ 5; have f6 := frozen_own TZ 6
             refine wpAnyH_ready (rs := [6]) (by kernel_rfl) (by simp) ?_
             refine AllReadyH.cons (o := { dst := Option.none, op := Op.store 35 (Operand.tmp 3) (Operand.tmp 69), type := 0, pos := "bytes.go:75", after := #[{ on := 2, ground := Ground.data }, { on := 5, ground := Ground.chain }, { on := 0, ground := Ground.phase }, { on := 1, ground := Ground.phase }, { on := 2, ground := Ground.phase }, { on := 3, ground := Ground.textOnly Departure.lateStores }, { on := 4, ground := Ground.textOnly Departure.lateStoresUnsure }, { on := 5, ground := Ground.phase }], guard := Option.none }) rfl (fun K hK => ?_) AllReadyH.nil
             go_simp
             obtain ⟨F, hF, hE, hbQ, hoth, hsF⟩ := put7 TZ (.int .i64 (nm2 : Int)) (.int .i64 (nm3 : Int)) (.int .i64 (nm4 : Int)) (.int .i64 (nm5 : Int)) (.slice Av j cv) (.slice A7 mC c7) (.slice A8 m7 c8)
             rw [← hF]
             have H15 := jI (jA hE (jA hbQ (jA hoth hsF)))
             clear hF z0 z1 z2 z3 z4 z5 z6 f0 f1 f2 f3 f4 f5 f6 TZ hE hbQ hoth hsF
             refine hK.out _ _ ⟨(H15.out.2.2.1 (g + 1) (by omega)).trans H14.out.1.1, (H15.out.2.2.1 gb (by have h1 := H13.out.1.2.1; have h2 := HR.out.1.1.lt; omega)).trans H14.out.1.2⟩ (fun hHeld2 => ?_)
             clear hK K hHeld
             have hHeld := hHeld2
             clear hHeld2
             refine wpAnyH_take (i := 7) (oi := { dst := Option.some 4, op := Op.assign (Operand.tmp 71), type := 27, pos := "bytes.go:75", after := #[{ on := 4, ground := Ground.data }, { on := 6, ground := Ground.chain }, { on := 0, ground := Ground.phase }, { on := 1, ground := Ground.phase }, { on := 2, ground := Ground.phase }, { on := 3, ground := Ground.phase }, { on := 4, ground := Ground.phase }, { on := 5, ground := Ground.phase }, { on := 6, ground := Ground.phase }], guard := Option.none }) (v := .iface 69 (.int .i64 (d : Int))) rfl (by kernel_rfl) (by kernel_rfl) (by kernel_rfl) (fun _ _ _ h => h) (Or.inl ⟨by rfl, ?_⟩) hHeld ?_
             · intro W hSw
               go_simp
             simp only [Act.put, qA, qB, qC]
             clear hHeld
             refine wpAnyH_done (by kernel_rfl) ?_ _
             have hbF : Below w0.heap.size w0 F := H13.out.2.1.bel.trans ((H14.out.2.2.1.mono H13.out.2.1.bel.size).trans (H15.out.2.1 _ HG.out.2))
             obtain ⟨z0, z1, z2, z3, z4, z5, z6⟩ := cells7 H15.out.1
             go_wp2_with fail
             refine bodyPost_ret (v := .tuple #[.int .i64 (nm1 : Int), .agg #[.int .i64 (nm2 : Int), .int .i64 (nm3 : Int), .int .i64 (nm4 : Int), .int .i64 (nm5 : Int), .slice Av j cv, .slice A7 mC c7, .slice A8 m7 c8], .iface 69 (.int .i64 (d : Int))]) (by simp [results, Tryz.results112, go_sem, z0, z1, z2, z3, z4, z5, z6]) rfl ?_
             exact ⟨(nm1 : Int), ⟨(nm2 : Int), (nm3 : Int), ⟨(nm4 : Int), (nm5 : Int), es⟩, decC x6, x7⟩, ⟨Av, j, cv, A7, mC, c7, A8, m7, c8, none, 0, 0, none, none, 0, 0⟩, _, rfl, hbF, Or.inl ⟨⟨d, rfl⟩, by rw [HR0.out]; simp only [HOK.out, ← HJ.out.2.2, Bool.true_and]; rw [decide_eq_false hd0]; rfl⟩⟩
end
end Go.Proofs.YtncaefocijainaaGreatDoor.pk
