/-
  The contracts of stage 12, of the landed code.
-/
import Derived.Test.YtfdccdjfbdmblaaHk5
namespace Go.Proofs.Ytfdccdjfbdmblaa.pk
open Go Go.RowKit
set_option maxRecDepth 100000

theorem putK_no1 {key0 key off : Int} {h p : List UInt8} {last : Bool} (h1 : off ≠ 0 ∧ (key ≠ key0 ∨ off ≠ h.length)) : putK key0 h key off p last = ⟨key0, h, [], if key ≠ key0 then 0 else h.length, false⟩ := by
  unfold putK
  rw [if_pos h1]
theorem putK_no2 {key0 key off : Int} {h p : List UInt8} {last : Bool} (h1 : 1048576 < (if off = 0 then 0 else h.length) + p.length) : putK key0 h key off p last = ⟨key0, h, [], if key ≠ key0 then 0 else h.length, false⟩ := by
  unfold putK
  split
  · rfl
  · first | rfl | rw [if_pos h1]
theorem putK_yes {key0 key off : Int} {h p x : List UInt8} {last : Bool} (h1 : ¬ (off ≠ 0 ∧ (key ≠ key0 ∨ off ≠ h.length))) (h2 : ¬ 1048576 < (if off = 0 then 0 else h.length) + p.length) (hx : x = (if off = 0 then [] else h) ++ p) :
    putK key0 h key off p last = if last then ⟨key, [], x, (x.length : Nat), true⟩ else ⟨key, x, [], (x.length : Nat), false⟩ := by
  unfold putK
  rw [if_neg h1, if_neg h2, hx]

theorem Put_any (key0 : Int) (A : Option Addr) (m c : Nat) (h : List UInt8) (key off : Int) (A' : Option Addr) (m' c' : Nat) (p : List UInt8) (last : Bool) (w : World) (hb : Bys w (.slice A m c) h) (hp : Bys w (.slice A' m' c') p) (hm : m ≤ 1048576) (hm' : m' ≤ 10000)
    (r : PutR) (hr : r = putK key0 h key off p last) :
    Calls Try.prog 7 #[.agg #[.int .i64 key0, .slice A m c], .int .i64 key, .int .i64 off, .slice A' m' c', .bool last] w fun y w' => ∃ A1 c1 A2 c2, y = .returned (.tuple #[.agg #[.int .i64 r.key, .slice A1 r.hav.length c1], .slice A2 r.txt.length c2, .int .i64 r.n, .bool r.ok]) ∧
      SlT w' (fun q => w.heap.size ≤ q ∧ q < w'.heap.size) (.slice A1 r.hav.length c1) r.hav ∧ Bys w' (.slice A2 r.txt.length c2) r.txt ∧ Below w.heap.size w w' := by
  obtain ⟨hl, hmc, hcm, -⟩ := hb.at_
  obtain ⟨hl', -, -, -⟩ := hp.at_
  have no : ∀ (HA : Option Addr) (hn hc : Nat), hn ≤ 1048576 → (∀ W, Calls Try.prog 12 #[.agg #[.int .i64 key0, .slice A m c], .int .i64 key] W fun y w' => y = .returned (.slice HA hn hc) ∧ Below W.heap.size W w') →
      ((¬ off = 0 ∧ ¬ off = (hn : Int)) ∨ (¬ off = 0 ∧ off = (hn : Int) ∧ 1048576 - off < (m' : Int))) → r = ⟨key0, h, [], (hn : Int), false⟩ →
      Calls Try.prog 7 #[.agg #[.int .i64 key0, .slice A m c], .int .i64 key, .int .i64 off, .slice A' m' c', .bool last] w fun y w' => ∃ A1 c1 A2 c2, y = .returned (.tuple #[.agg #[.int .i64 r.key, .slice A1 r.hav.length c1], .slice A2 r.txt.length c2, .int .i64 r.n, .bool r.ok]) ∧
        SlT w' (fun q => w.heap.size ≤ q ∧ q < w'.heap.size) (.slice A1 r.hav.length c1) r.hav ∧ Bys w' (.slice A2 r.txt.length c2) r.txt ∧ Below w.heap.size w w' := by
    intro HA hn hc h1 HU hcond hre
    refine (Put_no key0 key off A HA A' m c hn hc m' c' last h w hb hm h1 hm' HU hcond).mono ?_
    rintro y w' ⟨A1, c1, rfl, h2, h3⟩
    subst hre
    rw [hl] at h2
    exact ⟨A1, c1, none, 0, by rw [hl]; rfl, h2, Bys.nil_ _, h3⟩
  have yes : ∀ (HA : Option Addr) (hn hc o : Nat) (b x : List UInt8), Bys w (.slice HA o hc) b → o ≤ hn → hn ≤ hc → hc ≤ 9223372036854775807 → (o = 0 ∨ o = hn) → o + m' ≤ 1048576 → x = b ++ p → off = (o : Int) →
      (∀ W, Calls Try.prog 12 #[.agg #[.int .i64 key0, .slice A m c], .int .i64 key] W fun y w' => y = .returned (.slice HA hn hc) ∧ Below W.heap.size W w') →
      r = (if last then ⟨key, [], x, (x.length : Nat), true⟩ else ⟨key, x, [], (x.length : Nat), false⟩) →
      Calls Try.prog 7 #[.agg #[.int .i64 key0, .slice A m c], .int .i64 key, .int .i64 off, .slice A' m' c', .bool last] w fun y w' => ∃ A1 c1 A2 c2, y = .returned (.tuple #[.agg #[.int .i64 r.key, .slice A1 r.hav.length c1], .slice A2 r.txt.length c2, .int .i64 r.n, .bool r.ok]) ∧
        SlT w' (fun q => w.heap.size ≤ q ∧ q < w'.heap.size) (.slice A1 r.hav.length c1) r.hav ∧ Bys w' (.slice A2 r.txt.length c2) r.txt ∧ Below w.heap.size w w' := by
    intro HA hn hc o b x h1 h2 h3 h4 h5 h6 h7 h8 HU hre
    subst h8
    have hxl : x.length = o + m' := by have := h1.len_; rw [h7, List.length_append]; omega
    refine (Put_yes key0 key A HA A' m c hn hc m' c' o x.length last b p x w hp h1 h2 h3 h4 h5 h6 h7 hxl HU).mono ?_
    rintro y w' ⟨A1, c1, rfl, h9, h10⟩
    subst hre
    cases last
    · exact ⟨A1, c1, none, 0, rfl, h9, Bys.nil_ _, h10⟩
    · exact ⟨none, 0, A1, c1, rfl, SlT.nil_ _ _, h9.mono fun _ hk => hk.2, h10⟩
  by_cases hk : key = key0
  · subst hk
    by_cases h0 : off = 0
    · have hf := SlT.front hb (k := 0) (Nat.zero_le _)
      exact yes A m c 0 [] p hf (Nat.zero_le _) hmc hcm (Or.inl rfl) (by omega) rfl h0 (under_same key A m c) (by rw [hr]; exact putK_yes (by omega) (by rw [if_pos h0]; omega) (by rw [if_pos h0]; rfl))
    · by_cases h1 : off = (m : Int)
      · by_cases h2 : m + m' ≤ 1048576
        · exact yes A m c m h (h ++ p) hb (Nat.le_refl _) hmc hcm (Or.inr rfl) h2 rfl h1 (under_same key A m c) (by rw [hr]; exact putK_yes (by omega) (by rw [if_neg h0]; omega) (by rw [if_neg h0]))
        · exact no A m c hm (under_same key A m c) (Or.inr ⟨h0, h1, by omega⟩) (by rw [hr, putK_no2 (by rw [if_neg h0]; omega)]; simp; omega)
      · exact no A m c hm (under_same key A m c) (Or.inl ⟨h0, h1⟩) (by rw [hr, putK_no1 ⟨h0, Or.inr (by omega)⟩]; simp; omega)
  · by_cases h0 : off = 0
    · exact yes none 0 0 0 [] p (Bys.nil_ _) (Nat.le_refl _) (Nat.le_refl _) (by omega) (Or.inl rfl) (by omega) rfl h0 (fun W => under_other key0 key A m c W hk) (by rw [hr]; exact putK_yes (by omega) (by rw [if_pos h0]; omega) (by rw [if_pos h0]; rfl))
    · exact no none 0 0 (by omega) (fun W => under_other key0 key A m c W hk) (Or.inl ⟨h0, h0⟩) (by rw [hr, putK_no1 ⟨h0, Or.inl hk⟩]; simp [hk])

theorem conK : ConK where
  cCut A m c t off size w h hm ho hs r hr := Cut_any A m c t off size w h hm ho hs r hr
  cPieces A m c t size w h hm hs r hr := Pieces_any A m c t size w h hm hs r hr
  cPut key0 A m c h key off A' m' c' p last w hb hp hm hm' _ _ _ r hr := Put_any key0 A m c h key off A' m' c' p last w hb hp hm hm' r hr

end Go.Proofs.Ytfdccdjfbdmblaa.pk
