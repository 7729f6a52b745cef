import Derived.Test.YtncaefocijainaaGreatDoorG04
import Derived.Test.YtncaefocijainaaGreatDoorG06
import Derived.Test.YtncaefocijainaaGreatDoorG08
import Derived.Test.YtncaefocijainaaGreatDoorShelf
import Derived.Test.YtncaefocijainaaGreatDoorG07
import Derived.Test.YtncaefocijainaaGreatDoorG05
import Derived.BigQuiet
import Derived.Outline
namespace Go.Proofs.YtncaefocijainaaGreatDoor.pk
open Go Go.RowKit
set_option maxRecDepth 100000
section
theorem takeLetter_ok (A : Option Addr) (n c : Nat) (l : UInt8) (r : List UInt8) (w : World) {B : Nat} (h : Sl w B (.slice A n c) (l :: r)) :
   Calls Tryz.prog 154 #[.slice A n c, .int .u8 (l.toNat : Int)] w fun e w' => ∃ A' c', e = .returned (.tuple #[.slice A' r.length c', .nilIface]) ∧ Sl w B (.slice A' r.length c') r ∧ w = w' := by
 have hcut := h.cut (k := 1) (by simp)
 obtain ⟨A0, c0, hv, h1, h2, h3⟩ := h
 injection hv with e1 e2 e3
 subst e1; subst e2; subst e3
 rcases h3 with h3 | ⟨b, off, rfl, hb, hc⟩
 · cases h3
 have hc0 := hc 0 (by simp)
 simp only [List.getD_cons_zero, Nat.add_zero] at hc0
 simp only [List.length_cons] at h1
 have hl : (1 : Int) ≤ (c : Int) := by omega
 have hn : (1 : Int) ≤ ((r.length + 1 : Nat) : Int) := by omega
 go_enter Tryz.func154, Tryz.ntmps154
 go_wp2
 all_goals go_ret2
 all_goals exact ⟨_, _, rfl, by simpa [*, Addr.add] using hcut, rfl⟩
theorem takeLetter_end (A : Option Addr) (c : Nat) (l : UInt8) (w : World) :
   Calls Tryz.prog 154 #[.slice A 0 c, .int .u8 (l.toNat : Int)] w fun e w' => e = .returned (.tuple #[.slice none 0 0, .iface 69 (.int .i64 12)]) ∧ w = w' := by
 go_enter Tryz.func154, Tryz.ntmps154
 go_wp2
 all_goals go_ret2
 exact ⟨rfl, rfl⟩
theorem takeLetter_form (A : Option Addr) (n c : Nat) (l d : UInt8) (r : List UInt8) (w : World) {B : Nat} (h : Sl w B (.slice A n c) (d :: r)) (hne : d ≠ l) :
   Calls Tryz.prog 154 #[.slice A n c, .int .u8 (l.toNat : Int)] w fun e w' => e = .returned (.tuple #[.slice none 0 0, .iface 69 (.int .i64 3)]) ∧ w = w' := by
 obtain ⟨A0, c0, hv, h1, h2, h3⟩ := h
 injection hv with e1 e2 e3
 subst e1; subst e2; subst e3
 rcases h3 with h3 | ⟨b, off, rfl, hb, hc⟩
 · cases h3
 have hc0 := hc 0 (by simp)
 simp only [List.getD_cons_zero, Nat.add_zero] at hc0
 simp only [List.length_cons] at h1
 have hn : (1 : Int) ≤ ((r.length + 1 : Nat) : Int) := by omega
 have hx : (d.toNat : Int) ≠ (l.toNat : Int) := fun e => hne (UInt8.toNat_inj.1 (by omega))
 have hy : ((d.toNat : Int) != (l.toNat : Int)) = true := by simpa using hx
 clear hc hx hne
 go_enter Tryz.func154, Tryz.ntmps154
 go_wp2
 all_goals go_ret2
 exact ⟨rfl, rfl⟩
theorem number_nought (A : Option Addr) (n c : Nat) (r : List UInt8) (w : World) {B : Nat} (h : Sl w B (.slice A n c) (48 :: r)) (hr : r ≠ []) :
   Calls Tryz.prog 156 #[.slice A n c] w fun e w' => e = .returned (.tuple #[.int .u64 0, .iface 69 (.int .i64 3)]) ∧ w = w' := by
 obtain ⟨A0, c0, hv, h1, h2, h3⟩ := h
 injection hv with e1 e2 e3
 subst e1; subst e2; subst e3
 rcases h3 with h3 | ⟨b, off, rfl, hb, hc⟩
 · cases h3
 have hc0 : w.cell? ⟨b, off, none⟩ = some (.int .u8 48) := hc 0 (by simp)
 simp only [List.length_cons] at h1
 have hl : 0 < r.length := List.length_pos_iff.2 hr
 have hn : (2 : Int) ≤ ((r.length + 1 : Nat) : Int) := by omega
 clear hc hr
 go_enter Tryz.func156, Tryz.ntmps156
 go_wp2
 all_goals go_ret2
 exact ⟨rfl, rfl⟩
theorem below_bytes {w w' : World} {s : ByteArray} (h : w' = w ∨ w' = Lib.bytesWorld w 5 s) : Below w.heap.size w w' := by
 rcases h with rfl | rfl
 · exact Below.refl _ _
 · exact Lib.bytesWorld_below _ _ _
theorem number_ok (A : Option Addr) (n c u : Nat) (ds : List UInt8) (w : World) {B : Nat} (h : Sl w B (.slice A n c) ds) (hl : ds.length ≤ 20) (hu : numOf ds = some u) :
   Calls Tryz.prog 156 #[.slice A n c] w fun e w' => e = .returned (.tuple #[.int .u64 (u : Int), .nilIface]) ∧ Below w.heap.size w w' := by
 have hcv := conv_bytes h
 obtain ⟨hnn, hp⟩ := numOf_some hu
 have hsz : (⟨ds.toArray⟩ : ByteArray).size = ds.length := by simp [ByteArray.size]
 have Hcall := jI (Tryz.strconv_ParseUint_10_at64_ok ⟨ds.toArray⟩ (by rw [hsz]; omega) u hp)
 obtain ⟨A0, c0, hv, h1, h2, h3⟩ := h
 injection hv with e1 e2 e3
 subst e1; subst e2; subst e3
 clear hp hsz hu
 generalize (⟨ds.toArray⟩ : ByteArray) = s at hcv Hcall
 rcases ds with _ | ⟨d, r⟩
 · clear h3 hnn hl
   simp only [List.length_nil] at hcv h1 ⊢
   go_enter Tryz.func156, Tryz.ntmps156
   go_wp2_with (go_at_call 157; refine (Hcall.out _).mono ?_; rintro e w' ⟨rfl, hw⟩)
   go_ret2
   exact ⟨rfl, below_bytes hw⟩
 · rcases h3 with h3 | ⟨b, off, rfl, hb, hc⟩
   · cases h3
   have hc0 := hc 0 (by simp)
   simp only [List.getD_cons_zero, Nat.add_zero] at hc0
   simp only [List.length_cons] at h1 hl hnn hcv ⊢
   clear hc
   by_cases hr : r = []
   · subst hr
     simp only [List.length_nil, Nat.zero_add] at *
     clear hnn
     go_enter Tryz.func156, Tryz.ntmps156
     go_wp2_with (go_at_call 157; refine (Hcall.out _).mono ?_; rintro e w' ⟨rfl, hw⟩)
     go_ret2
     exact ⟨rfl, below_bytes hw⟩
   · have hl : 0 < r.length := List.length_pos_iff.2 hr
     have hd : d ≠ 48 := fun e => hnn ⟨by omega, by rw [e]; rfl⟩
     have hx : (d.toNat : Int) ≠ 48 := fun e => hd (UInt8.toNat_inj.1 (by show d.toNat = 48; omega))
     have hy : ((d.toNat : Int) == 48) = false := by simpa using hx
     have hn : (2 : Int) ≤ ((r.length + 1 : Nat) : Int) := by omega
     clear hnn hr hd hx
     go_enter Tryz.func156, Tryz.ntmps156
     go_wp2_with (go_at_call 157; refine (Hcall.out _).mono ?_; rintro e w' ⟨rfl, hw⟩)
     go_ret2
     exact ⟨rfl, below_bytes hw⟩
theorem number_err (A : Option Addr) (n c : Nat) (ds : List UInt8) (w : World) (hs : StdP w) {B : Nat} (h : Sl w B (.slice A n c) ds) (hl : ds.length ≤ 20) (hu : numOf ds = none) :
   Calls Tryz.prog 156 #[.slice A n c] w fun e w' => e = .returned (.tuple #[.int .u64 0, .iface 69 (.int .i64 3)]) ∧ Below w.heap.size w w' := by
 by_cases hnn : 1 < ds.length ∧ ds.head? = some 48
 · rcases ds with _ | ⟨d, r⟩
   · simp at hnn
   · obtain ⟨h1, h2⟩ := hnn
     simp only [List.head?_cons, Option.some.injEq] at h2
     subst h2
     refine (number_nought A n c r w h (fun e => by subst e; simp at h1)).mono ?_
     rintro e w' ⟨rfl, rfl⟩
     exact ⟨rfl, Below.refl _ _⟩
 have hcv := conv_bytes h
 have hsz : (⟨ds.toArray⟩ : ByteArray).size = ds.length := by simp [ByteArray.size]
 have Hex : Hid (∃ m : Int, ∀ w, StdP w → Calls Tryz.prog 157 #[.string ⟨ds.toArray⟩, .int .i64 10, .int .i64 64] w fun e w' => ∃ N, e = .returned (.tuple #[.int .u64 m, .iface 267 (.pointer (some ⟨N, 0, none⟩))]) ∧ Below w.heap.size w w') := by
   rcases numOf_none hu hnn with hp | hp
   · refine jI ⟨0, fun w hs => ?_⟩
     obtain ⟨tp, p, hv⟩ := hs.syn
     refine (Tryz.parse_bad ⟨ds.toArray⟩ (by rw [hsz]; omega) hp tp p w hv).mono ?_
     rintro e w' ⟨N, he, _, _, hb⟩
     exact ⟨N, he, hb⟩
   · refine jI ⟨18446744073709551615, fun w hs => ?_⟩
     obtain ⟨tp, p, hv⟩ := hs.rng
     refine (Tryz.strconv_ParseUint_10_at64_range_var ⟨ds.toArray⟩ (by rw [hsz]; omega) hp tp p w hv).mono ?_
     rintro e w' ⟨N, he, _, _, hb⟩
     exact ⟨N, he, hb⟩
 obtain ⟨m, hcall⟩ := Hex.out
 have Hcall := jI hcall
 clear hcall Hex
 obtain ⟨A0, c0, hv, h1, h2, h3⟩ := h
 injection hv with e1 e2 e3
 subst e1; subst e2; subst e3
 clear hsz hu
 generalize (⟨ds.toArray⟩ : ByteArray) = s at hcv Hcall
 rcases ds with _ | ⟨d, r⟩
 · clear h3 hnn hl
   simp only [List.length_nil] at hcv h1 ⊢
   go_enter Tryz.func156, Tryz.ntmps156
   go_wp2_with (go_at_call 157; go_must (refine (Hcall.out _ hs).mono ?_; rintro e w' ⟨N, rfl, hw⟩))
   go_ret2
   exact ⟨rfl, hw⟩
 · rcases h3 with h3 | ⟨b, off, rfl, hb, hc⟩
   · cases h3
   have hc0 := hc 0 (by simp)
   simp only [List.getD_cons_zero, Nat.add_zero] at hc0
   simp only [List.length_cons] at h1 hl hnn hcv ⊢
   clear hc
   by_cases hr : r = []
   · subst hr
     simp only [List.length_nil, Nat.zero_add] at *
     clear hnn
     go_enter Tryz.func156, Tryz.ntmps156
     go_wp2_with (go_at_call 157; go_must (refine (Hcall.out _ hs).mono ?_; rintro e w' ⟨N, rfl, hw⟩))
     go_ret2
     exact ⟨rfl, hw⟩
   · have hl : 0 < r.length := List.length_pos_iff.2 hr
     have hd : d ≠ 48 := fun e => hnn ⟨by omega, by rw [e]; rfl⟩
     have hx : (d.toNat : Int) ≠ 48 := fun e => hd (UInt8.toNat_inj.1 (by show d.toNat = 48; omega))
     have hy : ((d.toNat : Int) == 48) = false := by simpa using hx
     have hn : (2 : Int) ≤ ((r.length + 1 : Nat) : Int) := by omega
     clear hnn hr hd hx
     go_enter Tryz.func156, Tryz.ntmps156
     go_wp2_with (go_at_call 157; go_must (refine (Hcall.out _ hs).mono ?_; rintro e w' ⟨N, rfl, hw⟩))
     go_ret2
     exact ⟨rfl, hw⟩
theorem takeDigits_any (A : Option Addr) (n c : Nat) (e : UInt8) (bs : List UInt8) (w : World) (hs : StdP w) {B : Nat} (hB : B ≤ w.heap.size) (h : Sl w B (.slice A n c) bs) (he : isDg e = false)
   (k m : Nat) (rest : List UInt8) (hr : scan e [] bs = (k, m, rest)) :
   Calls Tryz.prog 155 #[.slice A n c, .int .u8 (e.toNat : Int)] w fun x w' => ∃ v', x = .returned (.tuple #[.int .u64 (m : Int), v', ev k]) ∧ Sl w' B v' rest ∧ Below w.heap.size w w' := by
 have H := jI h
 have HR := jI hr
 clear hr
 obtain ⟨A0, c0, hv, h1, h2, h3⟩ := h
 injection hv with e1 e2 e3
 subst e1; subst e2; subst e3
 have hcell : ∀ j, j < bs.length → ∃ b off, A = some ⟨b, off, none⟩ ∧ w.cell? ⟨b, off + j, none⟩ = some (.int .u8 ((bs.getD j 0).toNat : Int)) := by
   intro j hj
   rcases h3 with h3 | ⟨b, off, hA, hb, hc⟩
   · subst h3; simp at hj
   · exact ⟨b, off, hA, hc j hj⟩
 have Hcell := jI hcell
 have HE := jI he
 clear h3 hcell he
 go_enter Tryz.func155, Tryz.ntmps155
 go_wp2
 go_loop [13] (fun i => ∃ j : Nat, j ≤ bs.length ∧ j ≤ 20 ∧ i = .int .i64 (j : Int) ∧ Hid (scan e [] bs = scan e (bs.take j) (bs.drop j))) (fun i => bs.length - (intOf i).toNat)
 case atStart => exact ⟨0, by omega, by omega, rfl, by simp [Hid]⟩
 case round =>
   obtain ⟨j, hj, hj20, rfl, HS⟩ := hrel
   by_cases hlt : j < bs.length
   · obtain ⟨b, off, rfl, hc⟩ := Hcell.out j hlt
     have hdrop : bs.drop j = bs[j] :: bs.drop (j + 1) := List.drop_eq_getElem_cons hlt
     have hget : bs.getD j 0 = bs[j] := by simp [List.getD, List.getElem?_eq_getElem hlt]
     rw [hget] at hc
     have htk : bs.take (j + 1) = bs.take j ++ [bs[j]] := by rw [List.take_succ_eq_append_getElem hlt]
     have hsc := HS.out
     rw [hdrop] at hsc
     have hd256 : (bs[j].toNat : Int) < 256 := by have := bs[j].toNat_lt; omega
     generalize bs[j] = d at hc hsc htk hd256
     rw [scan_cons] at hsc
     have htl : (bs.take j).length = j := by rw [List.length_take]; omega
     by_cases hde : d = e
     · subst hde
       rw [if_pos rfl] at hsc
       cases hn : numOf (bs.take j) with
       | none =>
         rw [hn, HR.out] at hsc
         simp only [Prod.mk.injEq] at hsc
         obtain ⟨rfl, rfl, rfl⟩ := hsc
         have hcall := jI (number_err (some ⟨b, off, none⟩) j c (bs.take j) w hs (H.out.front hj) (by omega) hn)
         clear htk hdrop hget HS hn htl
         go_wp2_with (go_at_call 156; refine hcall.out.mono ?_; rintro e w' ⟨rfl, hw⟩)
         go_ret3
         exact ⟨_, rfl, Sl.nil_ _ _, hw⟩
       | some u =>
         rw [hn, HR.out] at hsc
         simp only [Prod.mk.injEq] at hsc
         obtain ⟨rfl, rfl, rfl⟩ := hsc
         have hcall := jI (number_ok (some ⟨b, off, none⟩) j c m (bs.take j) w (H.out.front hj) (by omega) hn)
         have hcut := jI (H.out.cut (k := j + 1) (by omega))
         have i1 : (1 : Int) ≤ (j : Int) + 1 := by omega
         have i2 : (j : Int) + 1 ≤ (bs.length : Int) := by omega
         have i3 : (bs.length : Int) ≤ (c : Int) := by omega
         clear htk hdrop hget HS hn htl
         by_cases hcj : c = j + 1
         · subst hcj
           rw [if_pos rfl] at hcut
           go_wp2_with (go_at_call 156; refine hcall.out.mono ?_; rintro e w' ⟨rfl, hw⟩)
           go_quiet (fail)
           go_wp2
           go_ret3
           refine ⟨_, rfl, ?_, below_drewN hw _⟩
           have hz := Sl.below hcut.out (hw.mono hB)
           have e0 : bs.length - (j + 1) = 0 := by omega
           have e1 : j + 1 - (j + 1) = 0 := by omega
           rw [e0, e1] at hz
           exact hz
         · rw [if_neg hcj] at hcut
           go_wp2_with (go_at_call 156; refine hcall.out.mono ?_; rintro e w' ⟨rfl, hw⟩)
           go_quiet (fail)
           go_wp2
           go_ret3
           refine ⟨_, rfl, ?_, below_drewN hw _⟩
           have hz := Sl.below hcut.out (hw.mono hB)
           have e0 : (some (⟨b, off, none⟩ : Addr)).map (·.add (j + 1)) = some ⟨b, off + (j + 1), none⟩ := by simp [Addr.add]
           rw [e0] at hz
           exact hz
     · rw [if_neg hde] at hsc
       have hx : (d.toNat : Int) ≠ (e.toNat : Int) := fun h => hde (UInt8.toNat_inj.1 (by omega))
       have hy : ((d.toNat : Int) == (e.toNat : Int)) = false := by simpa using hx
       have HD := jI hde
       clear hde hx
       by_cases hdg : isDg d = false ∨ (bs.take j).length = 20
       · rw [if_pos hdg, HR.out] at hsc
         simp only [Prod.mk.injEq] at hsc
         obtain ⟨rfl, rfl, rfl⟩ := hsc
         by_cases h48 : (d.toNat : Int) < 48
         · clear htk hdrop hget HS htl hdg
           go_wp2
           go_ret3
           exact ⟨_, rfl, Sl.nil_ _ _, Below.refl _ _⟩
         · by_cases h57 : (57 : Int) < (d.toNat : Int)
           · clear htk hdrop hget HS htl hdg
             go_wp2
             go_ret3
             exact ⟨_, rfl, Sl.nil_ _ _, Below.refl _ _⟩
           · have hj' : j = 20 := by
               rcases hdg with h | h
               · simp [isDg] at h; omega
               · omega
             subst hj'
             clear htk hdrop hget HS htl hdg
             go_wp2
             go_ret3
             exact ⟨_, rfl, Sl.nil_ _ _, Below.refl _ _⟩
       · rw [if_neg hdg, ← htk] at hsc
         have HN := jI hsc
         have h48 : (48 : Int) ≤ (d.toNat : Int) := by simp [isDg] at hdg; omega
         have h57 : (d.toNat : Int) ≤ 57 := by simp [isDg] at hdg; omega
         have hj' : (j : Int) ≤ 19 := by simp [isDg] at hdg; omega
         have hjb : ((j : Int) == 20) = false := by simp; omega
         clear htk hdrop hget HS htl hdg hsc
         go_wp2
         go_round
         case rel => exact ⟨j + 1, by omega, by omega, by go_num, HN⟩
         case measure => simp [intOf]; omega
   · have hj' : j = bs.length := by omega
     subst hj'
     have hsc := HS.out
     rw [HR.out, List.drop_eq_nil_of_le (by omega)] at hsc
     simp only [scan, Prod.mk.injEq] at hsc
     obtain ⟨rfl, rfl, rfl⟩ := hsc
     clear HS
     go_wp2
     go_ret3
     exact ⟨_, rfl, Sl.nil_ _ _, Below.refl _ _⟩
theorem takeDigits_ok (A : Option Addr) (n c : Nat) (e : UInt8) (bs : List UInt8) (w : World) (hs : StdP w) {B : Nat} (hB : B ≤ w.heap.size) (h : Sl w B (.slice A n c) bs) (he : isDg e = false)
   (m : Nat) (rest : List UInt8) (hr : scan e [] bs = (0, m, rest)) :
   Calls Tryz.prog 155 #[.slice A n c, .int .u8 (e.toNat : Int)] w fun x w' => ∃ A' c', x = .returned (.tuple #[.int .u64 (m : Int), .slice A' rest.length c', .nilIface]) ∧ Sl w' B (.slice A' rest.length c') rest ∧ Below w.heap.size w w' := by
 refine (takeDigits_any A n c e bs w hs hB h he 0 m rest hr).mono ?_
 rintro x w' ⟨v, rfl, hv, hb⟩
 obtain ⟨A', c', rfl, r⟩ := hv
 exact ⟨A', c', rfl, ⟨A', c', rfl, r⟩, hb⟩
theorem takeDigits_err (A : Option Addr) (n c : Nat) (e : UInt8) (bs : List UInt8) (w : World) (hs : StdP w) {B : Nat} (hB : B ≤ w.heap.size) (h : Sl w B (.slice A n c) bs) (he : isDg e = false)
   (k m : Nat) (rest : List UInt8) (hr : scan e [] bs = (k, m, rest)) (hk : k ≠ 0) :
   Calls Tryz.prog 155 #[.slice A n c, .int .u8 (e.toNat : Int)] w fun x w' => ∃ v, x = .returned (.tuple #[.int .u64 0, v, .iface 69 (.int .i64 (k : Int))]) ∧ Below w.heap.size w w' := by
 obtain ⟨_, rfl, rfl⟩ := scan_err bs [] hr hk
 refine (takeDigits_any A n c e bs w hs hB h he k 0 [] hr).mono ?_
 rintro x w' ⟨v, rfl, hv, hb⟩
 exact ⟨v, by unfold ev; rw [if_neg hk]; rfl, hb⟩
theorem takeHead_ok (A : Option Addr) (n c : Nat) (l e : UInt8) (bs : List UInt8) (w : World) (hs : StdP w) {B : Nat} (hB : B ≤ w.heap.size) (h : Sl w B (.slice A n c) bs) (he : isDg e = false)
   (m : Nat) (rest : List UInt8) (hr : hd l e bs = (0, m, rest)) :
   Calls Tryz.prog 151 #[.slice A n c, .int .u8 (l.toNat : Int), .int .u8 (e.toNat : Int)] w fun x w' => ∃ A' c', x = .returned (.tuple #[.int .u64 (m : Int), .slice A' rest.length c', .nilIface]) ∧ Sl w' B (.slice A' rest.length c') rest ∧ Below w.heap.size w w' := by
 rcases bs with _ | ⟨d, r⟩
 · simp [hd] at hr
 · rw [hd_cons] at hr
   by_cases hd' : d = l
   · subst hd'
     rw [if_pos rfl] at hr
     have c1 := jI (takeLetter_ok A n c d r w h)
     have HR := jI hr
     have HE := jI he
     clear h hr he
     go_enter Tryz.func151, Tryz.ntmps151
     go_wp2_with (first
       | (go_at_call 154; refine c1.out.mono ?_; rintro x w' ⟨A1, k1, rfl, h1, rfl⟩; have H1 := jI h1; clear h1)
       | (go_at_call 155; refine (takeDigits_ok _ _ _ e r _ hs hB H1.out HE.out m rest HR.out).mono ?_; rintro x w' ⟨A2, k2, rfl, h2, hb⟩))
     go_ret3
     exact ⟨A2, k2, rfl, h2, hb⟩
   · rw [if_neg hd'] at hr
     simp at hr
theorem takeHead_err (A : Option Addr) (n c : Nat) (l e : UInt8) (bs : List UInt8) (w : World) (hs : StdP w) {B : Nat} (hB : B ≤ w.heap.size) (h : Sl w B (.slice A n c) bs) (he : isDg e = false)
   (k m : Nat) (rest : List UInt8) (hr : hd l e bs = (k, m, rest)) (hk : k ≠ 0) :
   Calls Tryz.prog 151 #[.slice A n c, .int .u8 (l.toNat : Int), .int .u8 (e.toNat : Int)] w fun x w' => ∃ v, x = .returned (.tuple #[.int .u64 0, v, .iface 69 (.int .i64 (k : Int))]) ∧ Below w.heap.size w w' := by
 rcases bs with _ | ⟨d, r⟩
 · obtain ⟨A', c', hv, _⟩ := h
   injection hv with e1 e2 e3
   subst e1; subst e2; subst e3
   simp only [hd, Prod.mk.injEq] at hr
   obtain ⟨rfl, rfl, rfl⟩ := hr
   have c1 := jI (takeLetter_end A c l w)
   clear he
   simp only [List.length_nil]
   go_enter Tryz.func151, Tryz.ntmps151
   go_wp2_with (first
       | (go_at_call 154; refine c1.out.mono ?_; rintro x w' ⟨rfl, rfl⟩))
   go_ret3
   exact ⟨_, rfl, Below.refl _ _⟩
 · rw [hd_cons] at hr
   by_cases hd' : d = l
   · subst hd'
     rw [if_pos rfl] at hr
     have c1 := jI (takeLetter_ok A n c d r w h)
     have HR := jI hr
     have HE := jI he
     have HK := jI hk
     clear h hr he hk
     go_enter Tryz.func151, Tryz.ntmps151
     go_wp2_with (first
       | (go_at_call 154; refine c1.out.mono ?_; rintro x w' ⟨A1, k1, rfl, h1, rfl⟩; have H1 := jI h1; clear h1)
       | (go_at_call 155; refine (takeDigits_err _ _ _ e r _ hs hB H1.out HE.out k m rest HR.out HK.out).mono ?_; rintro x w' ⟨v2, rfl, hb⟩))
     go_ret3
     exact ⟨v2, rfl, hb⟩
   · rw [if_neg hd'] at hr
     simp only [Prod.mk.injEq] at hr
     obtain ⟨rfl, rfl, rfl⟩ := hr
     have c1 := jI (takeLetter_form A n c l d r w h hd')
     have HD := jI hd'
     clear h he hd'
     go_enter Tryz.func151, Tryz.ntmps151
     go_wp2_with (first
       | (go_at_call 154; refine c1.out.mono ?_; rintro x w' ⟨rfl, rfl⟩))
     go_ret3
     exact ⟨_, rfl, Below.refl _ _⟩
end
section
theorem takeUint_ok (A : Option Addr) (n c most m : Nat) (bs rest : List UInt8) (w : World) (hs : StdP w) {B : Nat} (hB : B ≤ w.heap.size) (h : Sl w B (.slice A n c) bs) (hr : rdUint most bs = (0, m, rest)) :
   Calls Tryz.prog 141 #[.slice A n c, .int .u64 (most : Int)] w fun x w' => ∃ A' c', x = .returned (.tuple #[.int .u64 (m : Int), .slice A' rest.length c', .nilIface]) ∧ Sl w' B (.slice A' rest.length c') rest ∧ Below w.heap.size w w' := by
 obtain ⟨hh, hm⟩ := rdUint_ok hr
 have c1 := jI (takeHead_ok A n c 110 59 bs w hs hB h (by decide) m rest hh)
 have hi : (m : Int) ≤ (most : Int) := by omega
 clear hr h hh hm
 go_enter Tryz.func141, Tryz.ntmps141
 go_wp2_with (go_at_call 151; refine c1.out.mono ?_; rintro x w' ⟨A1, k1, rfl, h1, hb⟩; have H1 := jI h1; clear h1)
 go_ret3
 exact ⟨A1, k1, rfl, H1.out, hb⟩
theorem takeUint_err (A : Option Addr) (n c most k m : Nat) (bs rest : List UInt8) (w : World) (hs : StdP w) {B : Nat} (hB : B ≤ w.heap.size) (h : Sl w B (.slice A n c) bs) (hr : rdUint most bs = (k, m, rest)) (hk : k ≠ 0) :
   Calls Tryz.prog 141 #[.slice A n c, .int .u64 (most : Int)] w fun x w' => x = .returned (.tuple #[.int .u64 0, .slice none 0 0, .iface 69 (.int .i64 (k : Int))]) ∧ Below w.heap.size w w' := by
 rcases rdUint_err hr hk with ⟨n1, r1, hh⟩ | ⟨rfl, n1, r1, hh, hm⟩
 · have c1 := jI (takeHead_err A n c 110 59 bs w hs hB h (by decide) k n1 r1 hh hk)
   clear hr h hh hk
   go_enter Tryz.func141, Tryz.ntmps141
   go_wp2_with (go_at_call 151; refine c1.out.mono ?_; rintro x w' ⟨v1, rfl, hb⟩)
   go_ret3
   exact ⟨rfl, hb⟩
 · have c1 := jI (takeHead_ok A n c 110 59 bs w hs hB h (by decide) n1 r1 hh)
   have hi : (most : Int) < (n1 : Int) := by omega
   clear hr h hh hk hm
   go_enter Tryz.func141, Tryz.ntmps141
   go_wp2_with (go_at_call 151; refine c1.out.mono ?_; rintro x w' ⟨A1, k1, rfl, h1, hb⟩; clear h1)
   go_ret3
   exact ⟨rfl, hb⟩
theorem takeBytes_ok (A : Option Addr) (n c : Nat) (letter : UInt8) (most : Int) (bs s rest : List UInt8) (w : World) (hs : StdP w) (hm : most ≤ 9223372036854775807) {B : Nat} (hB : B ≤ w.heap.size) (h : Sl w B (.slice A n c) bs) (hr : rdBytes letter most bs = (0, s, rest)) :
   Calls Tryz.prog 143 #[.slice A n c, .int .u8 (letter.toNat : Int), .int .i64 most] w fun x w' => ∃ A1 c1 A' c', x = .returned (.tuple #[.slice A1 s.length c1, .slice A' rest.length c', .nilIface]) ∧ Sl w' B (.slice A1 s.length c1) s ∧ Sl w' B (.slice A' rest.length c') rest ∧ Below w.heap.size w w' := by
 obtain ⟨h0, m, r, hh, hmm, hmr, rfl, rfl⟩ := rdBytes_ok hr
 have c1 := jI (takeHead_ok A n c letter 58 bs w hs hB h (by decide) m r hh)
 have i0 : (0 : Int) ≤ (m : Int) := by omega
 have i1 : (m : Int) ≤ (r.length : Int) := by omega
 clear hr h hh
 go_enter Tryz.func143, Tryz.ntmps143
 go_wp2_with fail
 refine c1.out.mono ?_
 rintro x w' ⟨A1, k1, rfl, h1, hb⟩
 obtain ⟨_, hl1, hl2⟩ := h1.len
 have i2 : (r.length : Int) ≤ (k1 : Int) := by omega
 have i3 : (r.length : Int) ≤ 9223372036854775807 := by omega
 have hf := h1.front hmr
 have hcut := h1.cut (k := m) hmr
 have e1 : (r.take m).length = m := by rw [List.length_take]; omega
 have e2 : (r.drop m).length = r.length - m := by rw [List.length_drop]
 have HF := jI hf
 have E1 := jI e1
 have E2 := jI e2
 by_cases hk : k1 = m
 · obtain rfl : m = r.length := by omega
   subst hk
   rw [if_pos rfl] at hcut
   have e0 : r.length - r.length = 0 := by omega
   rw [e0, List.drop_eq_nil_of_le (Nat.le_refl _)] at hcut
   have E0 := jI (List.drop_eq_nil_of_le (Nat.le_refl r.length))
   have HC := jI hcut
   clear h1 hf hcut e1 e2 e0
   go_wp2
   go_quiet (fail)
   go_wp2
   go_ret3
   refine ⟨A1, r.length, A1, 0, ?_, ?_, ?_, below_drewN hb _⟩
   · rw [E1.out, E0.out]; rfl
   · rw [E1.out]; exact HF.out
   · rw [E0.out]; exact HC.out
 · rw [if_neg hk] at hcut
   have HC := jI hcut
   clear h1 hf hcut e1 e2
   go_wp2
   go_quiet (fail)
   go_wp2
   go_ret3
   refine ⟨A1, k1, A1.map (·.add m), k1 - m, ?_, ?_, ?_, below_drewN hb _⟩
   · rw [E1.out, E2.out]; rfl
   · rw [E1.out]; exact HF.out
   · rw [E2.out]; exact HC.out
theorem takeBytes_err (A : Option Addr) (n c k : Nat) (letter : UInt8) (most : Int) (bs s rest : List UInt8) (w : World) (hs : StdP w) (hm : most ≤ 9223372036854775807) {B : Nat} (hB : B ≤ w.heap.size) (h : Sl w B (.slice A n c) bs) (hr : rdBytes letter most bs = (k, s, rest)) (hk : k ≠ 0) :
   Calls Tryz.prog 143 #[.slice A n c, .int .u8 (letter.toNat : Int), .int .i64 most] w fun x w' => x = .returned (.tuple #[.slice none 0 0, .slice none 0 0, .iface 69 (.int .i64 (k : Int))]) ∧ Below w.heap.size w w' := by
 have HB := Below.refl w.heap.size w
 rcases rdBytes_err hr hk with ⟨rfl, h0⟩ | ⟨h0, ⟨m, r, hh⟩ | ⟨m, r, hh, ⟨rfl, h1⟩ | ⟨rfl, h1, h2⟩⟩⟩
 · clear h hr hk
   go_enter Tryz.func143, Tryz.ntmps143
   go_wp2
   go_ret3
   exact ⟨rfl, HB⟩
 · have c1 := jI (takeHead_err A n c letter 58 bs w hs hB h (by decide) k m r hh hk)
   clear h hr hh hk
   go_enter Tryz.func143, Tryz.ntmps143
   go_wp2_with (go_at_call 151; refine c1.out.mono ?_; rintro x w' ⟨v1, rfl, hb⟩)
   go_ret3
   exact ⟨rfl, hb⟩
 · have c1 := jI (takeHead_ok A n c letter 58 bs w hs hB h (by decide) m r hh)
   clear h hr hh hk
   go_enter Tryz.func143, Tryz.ntmps143
   go_wp2_with (go_at_call 151; refine c1.out.mono ?_; rintro x w' ⟨A1, k1, rfl, hx, hb⟩; clear hx)
   go_ret3
   exact ⟨rfl, hb⟩
 · have c1 := jI (takeHead_ok A n c letter 58 bs w hs hB h (by decide) m r hh)
   have i1 : (r.length : Int) < (m : Int) := by omega
   clear h hr hh hk h2
   go_enter Tryz.func143, Tryz.ntmps143
   go_wp2_with fail
   refine c1.out.mono ?_
   rintro x w' ⟨A1, k1, rfl, hx, hb⟩
   obtain ⟨_, hl1, hl2⟩ := hx.len
   have i3 : (r.length : Int) ≤ 9223372036854775807 := by omega
   clear hx
   go_wp2
   go_ret3
   exact ⟨rfl, hb⟩
end
end Go.Proofs.YtncaefocijainaaGreatDoor.pk
