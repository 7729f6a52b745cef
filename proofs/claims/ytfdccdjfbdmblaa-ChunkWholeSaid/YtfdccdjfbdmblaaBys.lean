/-
  Bytes in memory that nobody writes any more; a row of bytes of one's own.
-/
import Derived.Test.YtfdccdjfbdmblaaInts
namespace Go.Proofs.Ytfdccdjfbdmblaa.pk
open Go Go.RowKit
set_option maxRecDepth 100000

/-- A slice of bytes. -/
def Bys (w : World) (v : Value) (bs : List UInt8) : Prop := SlT w (fun k => k < w.heap.size) v bs

theorem Bys.below {w w' : World} {v : Value} {bs : List UInt8} (h : Bys w v bs) (hb : Below w.heap.size w w') : Bys w' v bs :=
  (SlT.kept h fun k hk _ => hb.block k hk).mono fun _ hk => Nat.lt_of_lt_of_le hk hb.size
theorem Bys.nil_ (w : World) : Bys w (.slice none 0 0) [] := SlT.nil_ _ _
theorem Bys.form {w : World} {v : Value} {bs : List UInt8} (h : Bys w v bs) : ∃ A c, v = .slice A bs.length c ∧ bs.length ≤ c ∧ c ≤ 9223372036854775807 := by
  obtain ⟨A, c, hv, h1, h2, _⟩ := h
  exact ⟨A, c, hv, h1, h2⟩
theorem Bys.at_ {w : World} {A : Option Addr} {n c : Nat} {bs : List UInt8} (h : Bys w (.slice A n c) bs) :
    n = bs.length ∧ n ≤ c ∧ c ≤ 9223372036854775807 ∧ (0 < n → ∃ b off, A = some ⟨b, off, none⟩ ∧ b < w.heap.size ∧ ∀ j, j < n → w.cell? ⟨b, off + j, none⟩ = some (.int .u8 ((bs.getD j 0).toNat : Int))) := by
  obtain ⟨A', c', hv, h1, h2, h3⟩ := h
  injection hv with e1 e2 e3
  subst e1; subst e2; subst e3
  refine ⟨rfl, h1, h2, fun h0 => ?_⟩
  rcases h3 with h3 | ⟨b, off, rfl, hb, hc⟩
  · rw [h3] at h0; simp at h0
  · exact ⟨b, off, rfl, hb, hc⟩
theorem Bys.len_ {w : World} {A : Option Addr} {n c : Nat} {bs : List UInt8} (h : Bys w (.slice A n c) bs) : n = bs.length := h.at_.1
theorem Bys.of_own {w : World} {base e : Nat} {v : Value} {bs : List UInt8} (h : w.ownsRow base e 1 v bs.length (Lib.byteCells bs)) : Bys w v bs := SlT.of_own h _ fun g hg => (h.lt g hg).2
theorem Bys.sl_ {w : World} {v : Value} {bs : List UInt8} (h : Bys w v bs) : Sl w w.heap.size v bs := SlT.sl h
theorem Bys.of_sl {w : World} {v : Value} {bs : List UInt8} (h : Sl w w.heap.size v bs) : Bys w v bs := by
  obtain ⟨A, c, rfl, h1, h2, h3⟩ := h
  exact ⟨A, c, rfl, h1, h2, h3⟩

theorem info_byte : (Try.prog.info? 5).map (fun i => (i.zero, i.size, i.bytes)) = some (some (.int .u8 0), 1, 1) := by kernel_rfl
section
variable {w : World} {B : Nat} {v : Value} {xs : List UInt8} {ops : Array Oper} {rest : List Oper} {o : Oper} {a : Act} {R : Exit → Act → World → Prop}
/-- Bytes onto a row of one's own. -/
theorem wpList_joinB (hown : w.ownsRow B 5 1 v xs.length (Lib.byteCells xs)) (hgd : o.guard = none) (s x : Operand)
    (ho : o.op = .call { callee := .builtin .append, args := #[s, x], argTypes := #[23, 23] }) (hs : a.eval s = v) (A : Option Addr) (n c : Nat) (hx : a.eval x = .slice A n c) (ys : List UInt8)
    (hy : Bys w (.slice A n c) ys) (hl : xs.length + n < 100000000000) (hB : B ≤ w.heap.size)
    (hK : ∀ v' w', w'.ownsRow B 5 1 v' (xs ++ ys).length (Lib.byteCells (xs ++ ys)) → w.grownBy w' v.ownBlock → wpList Try.prog ops R rest (a.put o.dst v') w') : wpList Try.prog ops R (o :: rest) a w := by
  obtain ⟨i0, hi, hz0, hz1, hz2⟩ := info_three info_byte
  have hn := hy.len_
  refine wpList_append_sl hgd s x 23 ho B 5 i0 _ Try.underlying23 hi hz0 hz1 hz2 rfl v xs.length _ hs hown w.heap.size A n c ys hx hy.sl_ (by omega) hB ?_
  intro v' w' h1 h2
  refine hK v' w' ?_ h2
  rw [List.length_append, show Lib.byteCells (xs ++ ys) = Lib.byteCells xs ++ Lib.byteCells ys from by simp [Lib.byteCells]]
  exact h1
end
/-- What one owns, grown: what lay there has not changed. -/
theorem below_own {w w' : World} {B e sz n : Nat} {v : Value} {xs : List Value} {b : Nat} (h : w.ownsRow B e sz v n xs) (hg : w.grownBy w' v.ownBlock) (hb : b ≤ B) (hB : b ≤ w.heap.size) : Below b w w' :=
  (Below.refl b w).grown hg hB fun k hk => Nat.le_trans hb (h.lt k hk).1

end Go.Proofs.Ytfdccdjfbdmblaa.pk
