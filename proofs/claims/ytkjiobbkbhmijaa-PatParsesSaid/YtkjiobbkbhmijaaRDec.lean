/-
  A number's digits.
-/
import Derived.Test.YtkjiobbkbhmijaaRRow
namespace Go.Proofs.Ytkjiobbkbhmijaa.U
open Go.RowKit
set_option linter.unusedVariables false
set_option linter.unusedSimpArgs false
set_option maxRecDepth 100000

def decF : Nat → Nat → List Int
  | 0, n => [48 + (n : Int)]
  | f + 1, n => if n < 10 then [48 + (n : Int)] else decF f (n / 10) ++ [48 + ((n % 10 : Nat) : Int)]
/-- a row of runes of the call's own -/
def OwR (w : World) (B : Nat) (a : Option Addr) (n c : Nat) (xs : List Int) : Prop := xs.length = n ∧ w.ownsRow B 21 1 (.slice a n c) n (ints xs) ∧ ∀ x ∈ xs, (Lit.int .i32 x).wf = true
theorem OwR.rd {w : World} {B : Nat} {a : Option Addr} {n c : Nat} {xs : List Int} (h : OwR w B a n c xs) : Rd .i32 w a n c xs := Rd.own h.2.1 h.2.2
theorem OwR.below {w w' : World} {B : Nat} {a : Option Addr} {n c : Nat} {xs : List Int} (h : OwR w B a n c xs) (hb : Below w.heap.size w w') : OwR w' B a n c xs := ⟨h.1, own_fr h.2.1 (Fr.of_below (fun _ => False) hb) (fun _ _ h => h), h.2.2⟩
/-- a row that has just been laid -/
theorem owr_lit (w : World) (cs : Array Value) (xs : List Int) (n : Nat) (hc : cs = (xs.map (Value.int .i32)).toArray) (hn : xs.length = n) (hm : n ≤ 1000) (hw : ∀ x ∈ xs, (Lit.int .i32 x).wf = true) : OwR (w.alloc (.cells cs 21)) w.heap.size (some ⟨w.heap.size, 0, none⟩) n n xs := by
  subst hc hn
  have := own_of (B := w.heap.size) (n := xs.length) (cap := xs.length) (size := 1) (heap_alloc_new w (.cells (xs.map (Value.int .i32)).toArray 21)) (Nat.le_refl _) (Nat.le_refl _) (by unfold maxLen; omega) (by simp)
  refine ⟨rfl, ?_, hw⟩
  rw [List.take_of_length_le (by simp)] at this
  exact this
/-- append what can be read -/
theorem OwR.app {w : World} {B : Nat} {a : Option Addr} {n c : Nat} {xs : List Int} (h : OwR w B a n c xs) (hB : B ≤ w.heap.size) {a2 : Option Addr} {m c2 : Nat} {ys : List Int} (hr : Rd .i32 w a2 m c2 ys) (hb : n + m ≤ 1000000) :
    ∃ a' c' w', Hid (∀ ty, (Builtin.append_ #[22, 22] ty #[.slice a n c, .slice a2 m c2]).run Try.prog w = .ok (.slice a' (n + m) c') w') ∧ Hid (OwR w' B a' (n + m) c' (xs ++ ys) ∧ Below B w w') := by
  obtain ⟨a', c', w', hrun, hown, hbl⟩ := app_rd w B (.slice a n c) n xs a2 m c2 ys h.2.1 hB hr (by omega)
  refine ⟨a', c', w', hrun, ⟨by rw [List.length_append, h.1, hr.1], hown, fun x hx => ?_⟩, hbl⟩
  rcases List.mem_append.1 hx with hx | hx
  · exact h.2.2 x hx
  · exact hr.2.2.2.1 x hx
/-- append runes that have just been laid -/
theorem OwR.appL {w : World} {B : Nat} {a : Option Addr} {n c : Nat} {xs : List Int} (h : OwR w B a n c xs) (hB : B ≤ w.heap.size) (cs : Array Value) (ys : List Int) (m : Nat) (hc : cs = (ys.map (Value.int .i32)).toArray) (hm : ys.length = m) (hm10 : m ≤ 10) (hw : ∀ x ∈ ys, (Lit.int .i32 x).wf = true) (hb : n ≤ 900000) :
    ∃ a' c' w', Hid (∀ ty, (Builtin.append_ #[22, 22] ty #[.slice a n c, .slice (some ⟨w.heap.size, 0, none⟩) m m]).run Try.prog (w.alloc (.cells cs 21)) = .ok (.slice a' (n + m) c') w') ∧ Hid (OwR w' B a' (n + m) c' (xs ++ ys) ∧ Below B w w') := by
  obtain ⟨a', c', w', h1, h2⟩ := (h.below (bal w (.cells cs 21))).app (by simp; omega) (rd_lit w ys cs m hc hm hm10 hw) (by omega)
  exact ⟨a', c', w', h1, h2.out.1, ((bal w (.cells cs 21)).mono hB).trans h2.out.2⟩

theorem dec_any : ∀ (f n : Nat) (hn : n < 10 ^ (f + 1)) (hf : f ≤ 3) (w : World), Calls Try.prog 18 #[.int .i64 (n : Nat)] w fun e w' => ∃ a m c, e = .returned (.slice a m c) ∧ m ≤ f + 1 ∧ Hid (OwR w' w.heap.size a m c (decF f n) ∧ Below w.heap.size w w')
  | f, n, hn, hf, w => by
    by_cases h10 : n < 10
    · have hd : decF f n = [48 + (n : Int)] := by cases f <;> simp [decF, h10]
      rw [hd]
      obtain ⟨d, hdd⟩ : ∃ d : Int, 48 + (n : Int) = d := ⟨_, rfl⟩
      rw [hdd]
      have hlit := owr_lit w #[.int .i32 d] [d] 1 rfl rfl (by omega) (fun x hx => by simp at hx; subst hx; simp [Lit.wf, IntKind.min, IntKind.max, IntKind.signed, IntKind.bits]; omega)
      have HL := Lib.hid (And.intro hlit (bal w (.cells #[.int .i32 d] 21)))
      have g1 : (n : Int) < 10 := by omega
      have g2 : 48 ≤ d ∧ d ≤ 57 := by omega
      obtain ⟨g3, g4⟩ := g2
      clear hlit hd hn
      go_enter Try.func18, Try.ntmps18
      go_wp2
      go_ret
      exact ⟨_, _, _, rfl, by omega, HL.out⟩
    · match f, hn, hf with
      | 0, hn, hf => simp at hn; omega
      | f + 1, hn, hf =>
        have hd : decF (f + 1) n = decF f (n / 10) ++ [48 + ((n % 10 : Nat) : Int)] := by simp [decF, h10]
        rw [hd]
        have hrec := dec_any f (n / 10) (by rw [Nat.pow_succ] at hn; omega) (by omega)
        obtain ⟨m, hm⟩ : ∃ m, n / 10 = m := ⟨_, rfl⟩
        obtain ⟨d, hdd⟩ : ∃ d : Int, 48 + ((n % 10 : Nat) : Int) = d := ⟨_, rfl⟩
        rw [hdd]
        rw [hm] at hrec ⊢
        obtain ⟨r, hr⟩ : ∃ r, n % 10 = r := ⟨_, rfl⟩
        have k1 : (n : Int).tdiv 10 = (m : Int) := by rw [← hm]; rfl
        have k2 : (n : Int).tmod 10 = (r : Int) := by rw [← hr]; rfl
        have k3 : (n : Int) / 10 = (m : Int) := by omega
        have k4 : (n : Int) % 10 = (r : Int) := by omega
        have g1 : ¬ (n : Int) < 10 := by omega
        have g2 : 48 ≤ d ∧ d ≤ 57 := by omega
        have k5 : 48 + (r : Int) = d := by omega
        have g5 : r ≤ 9 := by omega
        obtain ⟨g3, g4⟩ := g2
        have HREC := Lib.hid hrec
        have hp : 10 ^ (f + 1 + 1) ≤ 100000 := by
          have : f + 1 + 1 ≤ 4 + 0 + 0 ∨ f + 1 + 1 = 5 := by omega
          match f, hf with
          | 0, _ => decide
          | 1, _ => decide
          | 2, _ => decide
          | 3, h => omega
        clear hrec hd hm hdd hr
        go_enter Try.func18, Try.ntmps18
        go_wp2_with (first
          | (go_at_call 18; refine (HREC.out _).mono ?_; rintro e w1 ⟨a1, m1, c1, rfl, hm1, H1⟩; obtain ⟨a2, c2, w2, HRUN, H2⟩ := H1.out.1.appL H1.out.2.size #[.int .i32 d] [d] 1 rfl rfl (by omega) (fun x hx => by simp at hx; subst hx; simp [Lit.wf, IntKind.min, IntKind.max, IntKind.signed, IntKind.bits]; omega) (by omega))
          | (at_builtin; go_must (with_reducible refine Lib.wpList_append_run _ rfl (.tmp 11) (.tmp 16) _ _ rfl _ _ rfl rfl _ _ (HRUN.out _) ?_)))
        go_ret
        exact ⟨_, _, _, rfl, by omega, H2.out.1, H1.out.2.trans H2.out.2⟩
end Go.Proofs.Ytkjiobbkbhmijaa.U
