import Derived.Test.YtncaefocijainaaGreatDoorG05
import Derived.Test.YtncaefocijainaaGreatDoorG04
import Derived.Test.YtncaefocijainaaGreatDoorG06
import Derived.Test.YtncaefocijainaaGreatDoorG08
import Derived.BigQuiet
import Derived.Outline
namespace Go.Proofs.YtncaefocijainaaGreatDoor.pk
open Go Go.RowKit
set_option maxRecDepth 100000
section
set_option maxHeartbeats 1000000 in
theorem digits_any (A : Option Addr) (n c a : Nat) (e : UInt8) (bs : List UInt8) (w : World) {B : Nat} (h : Sl w B (.slice A n c) bs) (ha : a ≤ bs.length) (he : isDg e = false)
   (k m : Nat) (rest : List UInt8) (hr : scan e [] (bs.drop a) = (k, m, rest)) :
   Calls Tryz.prog 95 #[.slice A n c, .int .i64 (a : Int), .int .u8 (e.toNat : Int)] w fun x w' => ∃ en : Nat, x = .returned (.tuple #[.int .u64 (m : Int), .int .i64 (en : Int), .int .i64 (k : Int)]) ∧ (k = 0 → en ≤ bs.length ∧ rest = bs.drop en) ∧ w' = w := by
 have H := jI h
 have HR := jI hr
 clear hr
 obtain ⟨A0, c0, hv, h1, h2, h3⟩ := h
 injection hv with e1 e2 e3
 subst e1; subst e2; subst e3
 have hcell : ∀ j, j < bs.length → ∃ b off, A = some ⟨b, off, none⟩ ∧ w.cell? ⟨b, off + j, none⟩ = some (.int .u8 ((bs.getD j 0).toNat : Int)) := by
   intro j hj
   rcases h3 with h3 | ⟨b, off, hA, hb, hc⟩
   · subst h3; simp at hj
   · exact ⟨b, off, hA, hc j hj⟩
 have Hcell := jI hcell
 have HE := jI he
 clear h3 hcell he
 obtain ⟨D, hD⟩ : ∃ D, D = bs.drop a := ⟨_, rfl⟩
 have hDl : D.length = bs.length - a := by rw [hD, List.length_drop]
 have HD := jI hD
 rw [← hD] at HR
 clear hD
 go_enter Tryz.func95, Tryz.ntmps95
 go_wp2
 go_loop [9, 10] (fun nn ii => ∃ j : Nat, j ≤ D.length ∧ j ≤ 20 ∧ nn = .int .u64 ((fv 0 (D.take j) % 18446744073709551616 : Nat) : Int) ∧ ii = .int .i64 ((a : Int) + (j : Int)) ∧ Hid (scan e [] D = scan e (D.take j) (D.drop j)) ∧ Hid (∀ d ∈ D.take j, isDg d = true)) (fun nn ii => D.length + a - (intOf ii).toNat)
 case atStart => exact ⟨0, by omega, by omega, by rw [List.take_zero, fv_nil]; rfl, by simp, jI (by rw [List.take_zero, List.drop_zero]), jI (by rw [List.take_zero]; intro d hd; cases hd)⟩
 case round =>
   obtain ⟨j, hj, hj20, rfl, rfl, HS, HG⟩ := hrel
   have htl : (D.take j).length = j := by rw [List.length_take]; omega
   by_cases hlt : j < D.length
   · obtain ⟨b, off, rfl, hc⟩ := Hcell.out (a + j) (by omega)
     have hdrop : D.drop j = D[j] :: D.drop (j + 1) := List.drop_eq_getElem_cons hlt
     have hget : bs.getD (a + j) 0 = D[j] := by
       have h1 := getD_drop bs a j
       rw [← HD.out] at h1
       rw [← h1]; simp [List.getD, List.getElem?_eq_getElem hlt]
     rw [hget] at hc
     have htk : D.take (j + 1) = D.take j ++ [D[j]] := by rw [List.take_succ_eq_append_getElem hlt]
     have hsc := HS.out
     rw [hdrop] at hsc
     have hd256 : (D[j].toNat : Int) < 256 := by have := D[j].toNat_lt; omega
     have hmem : D[j] = D.getD j 0 := by simp [List.getD, List.getElem?_eq_getElem hlt]
     have HDr := jI hdrop
     clear hdrop hget hmem
     generalize D[j] = d at hc hsc htk hd256 HDr
     rw [scan_cons, HR.out] at hsc
     have i1 : (a : Int) + (j : Int) < (bs.length : Int) := by omega
     have i2 : (bs.length : Int) ≤ (c : Int) := by omega
     have HFV := jI (fv_lt (D.take j) HG.out)
     obtain ⟨y, hy⟩ : ∃ y, fv 0 (D.take j) % 18446744073709551616 = y := ⟨_, rfl⟩
     rw [hy]
     have hyl : y < 18446744073709551616 := by rw [← hy]; exact Nat.mod_lt _ (by decide)
     have HY := jI hy
     clear hy
     by_cases hde : d = e
     · subst hde
       rw [if_pos rfl] at hsc
       have hnum := numOf_fv (D.take j) HG.out (by omega)
       by_cases hbad : badNum (D.take j)
       · rw [hnum.1 hbad] at hsc
         simp only [Prod.mk.injEq] at hsc
         obtain ⟨rfl, rfl, rfl⟩ := hsc
         clear hnum
         by_cases hlead : 1 < (D.take j).length ∧ (D.take j).head? = some 48
         · obtain ⟨hb1, hb2⟩ := hlead
           have hj2 : (2 : Int) ≤ (j : Int) := by omega
           obtain ⟨b', off', hA, hc0⟩ := Hcell.out a (by omega)
           obtain ⟨rfl, rfl⟩ : b = b' ∧ off = off' := by injection hA with hA; injection hA with e1 e2; exact ⟨e1, e2⟩
           have hg0 : bs.getD a 0 = 48 := by
             have h1 := getD_drop bs a 0
             rw [← HD.out, Nat.add_zero] at h1
             rw [← h1]
             have h2 := getD_take D j 0 (by omega)
             rw [← h2]
             generalize D.take j = tk at hb2
             cases tk with
             | nil => simp at hb2
             | cons x l => simpa using hb2
           rw [hg0] at hc0
           replace hc0 : w.cell? ⟨b, off + a, none⟩ = some (.int .u8 48) := hc0
           have hz : ((a : Int) + (j : Int) - (a : Int) == 0) = false := by simp; omega
           clear htk HS HG hb1 hb2 hA hg0 htl
           go_wp2
           go_ret3
           first | exact ⟨0, rfl⟩ | exact ⟨⟨0, rfl⟩, rfl⟩
         · rcases hbad with hb0 | hb | ⟨hb1, hb2⟩
           · rw [hb0] at htl
             simp only [List.length_nil] at htl
             subst htl
             simp only [Nat.add_zero, Int.ofNat_zero, Int.add_zero] at hc i1 ⊢
             clear htk HS HG hb0
             go_wp2
             go_ret3
             first | exact ⟨0, rfl⟩ | exact ⟨⟨0, rfl⟩, rfl⟩
           · exact absurd hb hlead
           · obtain rfl : j = 20 := by omega
             have hx0 : 1 < 20 → ((bs.getD a 0).toNat : Int) ≠ 48 := by
               intro _ hx
               apply hlead
               refine ⟨by omega, ?_⟩
               have h1 := getD_drop bs a 0
               rw [← HD.out, Nat.add_zero] at h1
               rw [← h1] at hx
               have h2 := getD_take D 20 0 (by omega)
               rw [← h2] at hx
               generalize D.take 20 = tk at hx htl
               cases tk with
               | nil => simp only [List.length_nil] at htl; omega
               | cons x l => simp only [List.head?_cons]; rw [show x = 48 from UInt8.toNat_inj.1 (by have h3 : (x.toNat : Int) = 48 := hx; show x.toNat = 48; omega)]
             obtain ⟨b', off', hA, hc0⟩ := Hcell.out a (by omega)
             obtain ⟨rfl, rfl⟩ : b = b' ∧ off = off' := by injection hA with hA; injection hA with e1 e2; exact ⟨e1, e2⟩
             clear hA
             have hS : Sl w B (.slice (some ⟨b, off + a, none⟩) 20 (c - a)) (D.take 20) := by
               have h1 := H.out.cut (k := a) ha
               rw [if_neg (by omega), ← HD.out] at h1
               have h2 := h1.front (k := 20) (by omega)
               have e0 : (some (⟨b, off, none⟩ : Addr)).map (·.add a) = some ⟨b, off + a, none⟩ := by simp [Addr.add]
               rw [e0] at h2
               exact h2
             have hcv := conv_bytes hS
             clear hS
             have hl0 : (⟨(D.take 20).toArray⟩ : ByteArray).toList = D.take 20 := ByteArray.toList_mk _
             have htot := less_total (D.take 20) top20
             rw [hb2, ← hl0, Bool.and_eq_true, Bool.not_eq_true', Bool.not_eq_true'] at htot
             obtain ⟨hA, hB⟩ := htot
             have hx := hx0 (by omega)
             have hx1 : (((bs.getD a 0).toNat : Int) == 48) = false := by simpa using hx
             unfold top20 at hA hB
             generalize (⟨(D.take 20).toArray⟩ : ByteArray) = S at hcv hA hB
             generalize bs.getD a 0 = x0 at hc0 hx hx1
             clear htk HS HG hb1 hb2 htl hl0 hx0 hlead
             go_wp2
             go_ret3
             first | exact ⟨0, rfl⟩ | exact ⟨⟨0, rfl⟩, rfl⟩
       · rw [(hnum.2 hbad).1] at hsc
         have hfl := (hnum.2 hbad).2
         simp only [Prod.mk.injEq] at hsc
         obtain ⟨rfl, rfl, rfl⟩ := hsc
         obtain rfl : y = fv 0 (D.take j) := by have := HY.out; omega
         clear hnum HY HFV
         have hlead : ¬ (1 < (D.take j).length ∧ (D.take j).head? = some 48) := fun h => hbad (Or.inr (Or.inl h))
         have hj0 : j ≠ 0 := fun h => hbad (Or.inl (List.eq_nil_of_length_eq_zero (by omega)))
         have hdd : D.drop (j + 1) = bs.drop (a + j + 1) := by rw [HD.out, List.drop_drop, Nat.add_assoc]
         have HRest := jI hdd
         have hen : a + j + 1 ≤ bs.length := by omega
         have HM := jI hfl
         clear hdd hfl
         by_cases hj1 : j = 1
         · subst hj1
           clear htk HS HG htl hbad hlead
           go_wp2
           go_ret3
           first | (refine ⟨a + 1 + 1, ?_⟩; first | exact ⟨rfl, ⟨hen, HRest.out⟩, rfl⟩ | exact ⟨rfl, hen, HRest.out⟩ | exact ⟨rfl, fun _ => ⟨hen, HRest.out⟩, rfl⟩) | (refine ⟨⟨a + 1 + 1, ?_⟩, rfl⟩; first | exact ⟨rfl, hen, HRest.out⟩ | exact ⟨rfl, fun _ => ⟨hen, HRest.out⟩⟩)
         · have hz : ((a : Int) + (j : Int) - (a : Int) == 0) = false := by simp; omega
           have hj2 : (2 : Int) ≤ (j : Int) := by omega
           have hx0 : 1 < j → ((bs.getD a 0).toNat : Int) ≠ 48 := by
             intro hj1 hx
             apply hlead
             refine ⟨by omega, ?_⟩
             have h1 := getD_drop bs a 0
             rw [← HD.out, Nat.add_zero] at h1
             rw [← h1] at hx
             have h2 := getD_take D j 0 (by omega)
             rw [← h2] at hx
             generalize D.take j = tk at hx htl
             cases tk with
             | nil => simp only [List.length_nil] at htl; omega
             | cons x l => simp only [List.head?_cons]; rw [show x = 48 from UInt8.toNat_inj.1 (by have h3 : (x.toNat : Int) = 48 := hx; show x.toNat = 48; omega)]
           obtain ⟨b', off', hA, hc0⟩ := Hcell.out a (by omega)
           obtain ⟨rfl, rfl⟩ : b = b' ∧ off = off' := by injection hA with hA; injection hA with e1 e2; exact ⟨e1, e2⟩
           clear hA
           have hx := hx0 (by omega)
           have hx1 : (((bs.getD a 0).toNat : Int) == 48) = false := by simpa using hx
           by_cases h20 : j = 20
           · subst h20
             have hS : Sl w B (.slice (some ⟨b, off + a, none⟩) 20 (c - a)) (D.take 20) := by
               have h1 := H.out.cut (k := a) ha
               rw [if_neg (by omega), ← HD.out] at h1
               have h2 := h1.front (k := 20) (by omega)
               have e0 : (some (⟨b, off, none⟩ : Addr)).map (·.add a) = some ⟨b, off + a, none⟩ := by simp [Addr.add]
               rw [e0] at h2
               exact h2
             have hcv := conv_bytes hS
             clear hS
             have hl0 : (⟨(D.take 20).toArray⟩ : ByteArray).toList = D.take 20 := ByteArray.toList_mk _
             have htot := less_total (D.take 20) top20
             have hnl : Op.bytesLess top20 (D.take 20) = false := by
               cases hh : Op.bytesLess top20 (D.take 20) with
               | false => rfl
               | true => exact absurd (Or.inr (Or.inr ⟨htl, hh⟩)) hbad
             rw [hnl, ← hl0] at htot
             unfold top20 at htot
             generalize (⟨(D.take 20).toArray⟩ : ByteArray) = S at hcv htot
             generalize bs.getD a 0 = x0 at hc0 hx hx1
             clear htk HS HG htl hl0 hx0 hlead hnl hbad
             cases hA : Op.bytesLess S.toList [49, 56, 52, 52, 54, 55, 52, 52, 48, 55, 51, 55, 48, 57, 53, 53, 49, 54, 49, 53] with
             | true =>
               clear htot
               go_wp2
               go_ret3
               first | (refine ⟨a + 20 + 1, ?_⟩; first | exact ⟨rfl, ⟨hen, HRest.out⟩, rfl⟩ | exact ⟨rfl, hen, HRest.out⟩ | exact ⟨rfl, fun _ => ⟨hen, HRest.out⟩, rfl⟩) | (refine ⟨⟨a + 20 + 1, ?_⟩, rfl⟩; first | exact ⟨rfl, hen, HRest.out⟩ | exact ⟨rfl, fun _ => ⟨hen, HRest.out⟩⟩)
             | false =>
               rw [hA] at htot
               have hB : (S.toList == [49, 56, 52, 52, 54, 55, 52, 52, 48, 55, 51, 55, 48, 57, 53, 53, 49, 54, 49, 53]) = true := by simpa using htot
               clear htot
               go_wp2
               go_ret3
               first | (refine ⟨a + 20 + 1, ?_⟩; first | exact ⟨rfl, ⟨hen, HRest.out⟩, rfl⟩ | exact ⟨rfl, hen, HRest.out⟩ | exact ⟨rfl, fun _ => ⟨hen, HRest.out⟩, rfl⟩) | (refine ⟨⟨a + 20 + 1, ?_⟩, rfl⟩; first | exact ⟨rfl, hen, HRest.out⟩ | exact ⟨rfl, fun _ => ⟨hen, HRest.out⟩⟩)
           · have hjb : ((a : Int) + (j : Int) - (a : Int) == 20) = false := by simp; omega
             generalize bs.getD a 0 = x0 at hc0 hx hx1
             clear htk HS HG htl hx0 hlead hbad
             go_wp2
             go_ret3
             first | (refine ⟨a + j + 1, ?_⟩; first | exact ⟨rfl, ⟨hen, HRest.out⟩, rfl⟩ | exact ⟨rfl, hen, HRest.out⟩ | exact ⟨rfl, fun _ => ⟨hen, HRest.out⟩, rfl⟩) | (refine ⟨⟨a + j + 1, ?_⟩, rfl⟩; first | exact ⟨rfl, hen, HRest.out⟩ | exact ⟨rfl, fun _ => ⟨hen, HRest.out⟩⟩)
     · rw [if_neg hde] at hsc
       have hx : (d.toNat : Int) ≠ (e.toNat : Int) := fun h => hde (UInt8.toNat_inj.1 (by omega))
       have hy : ((d.toNat : Int) == (e.toNat : Int)) = false := by simpa using hx
       have HDE := jI hde
       clear hde hx
       by_cases hdg : isDg d = false ∨ (D.take j).length = 20
       · rw [if_pos hdg] at hsc
         simp only [Prod.mk.injEq] at hsc
         obtain ⟨rfl, rfl, rfl⟩ := hsc
         by_cases h48 : (d.toNat : Int) < 48
         · clear htk HS htl hdg
           go_wp2
           go_ret3
           first | exact ⟨0, rfl⟩ | exact ⟨⟨0, rfl⟩, rfl⟩
         · by_cases h57 : (57 : Int) < (d.toNat : Int)
           · clear htk HS htl hdg
             go_wp2
             go_ret3
             first | exact ⟨0, rfl⟩ | exact ⟨⟨0, rfl⟩, rfl⟩
           · have hj' : j = 20 := by
               rcases hdg with h | h
               · simp [isDg] at h; omega
               · omega
             subst hj'
             clear htk HS htl hdg
             go_wp2
             go_ret3
             first | exact ⟨0, rfl⟩ | exact ⟨⟨0, rfl⟩, rfl⟩
       · rw [if_neg hdg, ← htk] at hsc
         have HN := jI (HR.out.trans hsc)
         have hall : ∀ x ∈ D.take (j + 1), isDg x = true := by
           rw [htk]
           intro x hx
           rcases List.mem_append.1 hx with h | h
           · exact HG.out x h
           · rw [List.mem_singleton.1 h]; simp at hdg; exact hdg.1
         have HALL := jI hall
         have h48 : (48 : Int) ≤ (d.toNat : Int) := by simp [isDg] at hdg; omega
         have h57 : (d.toNat : Int) ≤ 57 := by simp [isDg] at hdg; omega
         have hj' : (j : Int) ≤ 19 := by simp [isDg] at hdg; omega
         have hjb : ((a : Int) + (j : Int) - (a : Int) == 20) = false := by simp; omega
         have hfv : Hid (fv 0 (D.take (j + 1)) = 10 * fv 0 (D.take j) + (d.toNat - 48)) := by rw [htk, fv_append, fv_one]; exact jI rfl
         clear htk HS htl hdg hsc hall
         obtain ⟨F, hF⟩ : ∃ F, fv 0 (D.take (j + 1)) = F := ⟨_, rfl⟩
         have hwrap : IntKind.u64.wrap (IntKind.u64.wrap (10 * (y : Int)) + ((d.toNat : Int) - 48)) = (F : Int) % 18446744073709551616 := by
           have h1 := hfv.out
           have h2 := HY.out
           rw [hF] at h1
           rw [IntKind.wrap_u64, IntKind.wrap_u64, h1]
           omega
         have hcast : (F : Int) % 18446744073709551616 = ((F % 18446744073709551616 : Nat) : Int) := by omega
         have HF := jI hF
         have HC := jI hcast
         clear hF hcast hfv HY HFV
         go_wp2
         go_round
         case rel =>
           refine ⟨j + 1, by omega, by omega, ?_, ?_, HN, HALL⟩
           · rw [HF.out, HC.out]
           · rw [show (a : Int) + (j : Int) + 1 = (a : Int) + ((j + 1 : Nat) : Int) from by omega]
         case measure => show _ - Int.toNat ((a : Int) + (j : Int) + 1) < _ - Int.toNat ((a : Int) + (j : Int)); omega
   · have hj' : j = D.length := by omega
     subst hj'
     have hsc := HS.out
     rw [HR.out, List.drop_eq_nil_of_le (by omega)] at hsc
     simp only [scan, Prod.mk.injEq] at hsc
     obtain ⟨rfl, rfl, rfl⟩ := hsc
     clear HS HG
     have i1 : (bs.length : Int) ≤ (a : Int) + (D.length : Int) := by omega
     go_wp2
     go_ret3
     first | exact ⟨0, rfl⟩ | exact ⟨⟨0, rfl⟩, rfl⟩
end
end Go.Proofs.YtncaefocijainaaGreatDoor.pk
