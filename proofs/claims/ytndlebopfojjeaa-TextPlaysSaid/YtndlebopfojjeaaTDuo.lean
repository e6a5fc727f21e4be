/-
  A text and the document's text beside it, in blocks of their own: what each call leaves of both.
  A deed with both texts: taken out, told, put in the place of others.
  A deed with both texts: put in; any deed.
  The law's same: both have the same lines; what is told is the caller's own.
-/
import Derived.Test.YtndlebopfojjeaaTRefR
import Derived.Test.YtndlebopfojjeaaTUndo
import Derived.Deep.RegionHeld3
namespace Go.Proofs.Ytndlebopfojjeaa.U
open Go.RowKit
set_option linter.unusedVariables false
set_option linter.unusedSimpArgs false
set_option maxRecDepth 100000

theorem RX.bound {P : Nat → Prop} {w : World} {bx : Nat} {L : List (List Int)} (h : RX P w bx L) : RX (fun k => P k ∧ k < w.heap.size) w bx L := by
  obtain ⟨la, n, lc, h1, h2, h3⟩ := h
  exact ⟨la, n, lc, h1, h2.bound.mono (fun k hk => ⟨⟨hk.1.1, hk.2⟩, hk.1.2⟩), h3, heap_lt h1⟩
/-- both, in blocks from B on that are not Q's -/
def Duo (B : Nat) (Q : Nat → Prop) (w : World) (bt bx ng : Nat) (L X : List (List Int)) : Prop :=
  ∃ P G : Nat → Prop, TX P w bt L ng ∧ RX G w bx X ∧ (∀ k, P k → ¬ G k) ∧ (∀ k, P k → B ≤ k ∧ k < w.heap.size ∧ ¬ Q k) ∧ (∀ k, G k → B ≤ k ∧ k < w.heap.size ∧ ¬ Q k)
section
variable {B : Nat} {Q : Nat → Prop} {w W : World} {bt bx ng : Nat} {L X : List (List Int)}
theorem Duo.more {N : Nat → Prop} (h : Duo B Q w bt bx ng L X) (hb : Below w.heap.size w W) (hN : ∀ k, N k → w.heap.size ≤ k) : Duo B (fun k => Q k ∨ N k) W bt bx ng L X := by
  obtain ⟨P, G, h1, h2, h3, h4, h5⟩ := h
  have hs := hb.size
  exact ⟨P, G, h1.below hb, h2.below hb, h3, fun k hk => ⟨(h4 k hk).1, by have := h4 k hk; omega, fun e => e.elim (h4 k hk).2.2 (fun e => by have := hN k e; have := h4 k hk; omega)⟩, fun k hk => ⟨(h5 k hk).1, by have := h5 k hk; omega, fun e => e.elim (h5 k hk).2.2 (fun e => by have := hN k e; have := h5 k hk; omega)⟩⟩
theorem Duo.less {Q' : Nat → Prop} (h : Duo B Q w bt bx ng L X) (hq : ∀ k, Q' k → Q k) : Duo B Q' w bt bx ng L X := by
  obtain ⟨P, G, h1, h2, h3, h4, h5⟩ := h
  exact ⟨P, G, h1, h2, h3, fun k hk => ⟨(h4 k hk).1, (h4 k hk).2.1, fun e => (h4 k hk).2.2 (hq k e)⟩, fun k hk => ⟨(h5 k hk).1, (h5 k hk).2.1, fun e => (h5 k hk).2.2 (hq k e)⟩⟩
theorem Duo.below (h : Duo B Q w bt bx ng L X) (hb : Below w.heap.size w W) : Duo B Q W bt bx ng L X := (h.more (N := fun _ => False) hb (fun _ h => h.elim)).less (fun k hk => .inl hk)
theorem Duo.mono {ng' : Nat} (h : Duo B Q w bt bx ng L X) (hn : ng ≤ ng') : Duo B Q w bt bx ng' L X := by
  obtain ⟨P, G, h1, h2, h3⟩ := h
  exact ⟨P, G, h1.mono (fun _ h => h) hn, h2, h3⟩
theorem Duo.t {P G : Nat → Prop} {ng' : Nat} {R : List (List Int)} (hB : B ≤ w.heap.size) (hQ : ∀ k, Q k → k < w.heap.size) (h2 : RX G w bx X) (h3 : ∀ k, P k → ¬ G k) (h4 : ∀ k, P k → B ≤ k ∧ k < w.heap.size ∧ ¬ Q k) (h5 : ∀ k, G k → B ≤ k ∧ k < w.heap.size ∧ ¬ Q k) (hA : AfT P w bt R ng' W) :
    Duo B Q W bt bx ng' R X ∧ Fr (fun k => B ≤ k ∧ ¬ Q k) w W := by
  have hs := hA.2.size
  refine ⟨⟨_, G, hA.1.bound, h2.fr hA.2 (fun k hk hp => h3 k hp hk), fun k hk hg => ?_, fun k hk => ?_, fun k hk => ⟨(h5 k hk).1, by have := h5 k hk; omega, (h5 k hk).2.2⟩⟩, hA.2.mono (fun k _ hk => ⟨(h4 k hk).1, (h4 k hk).2.2⟩)⟩
  · rcases hk.1 with e | e
    · exact h3 k e hg
    · have := h5 k hg; omega
  · rcases hk.1 with e | e
    · exact ⟨(h4 k e).1, hk.2, (h4 k e).2.2⟩
    · exact ⟨by omega, hk.2, fun q => by have := hQ k q; omega⟩
theorem Duo.x {P G : Nat → Prop} {R : List (List Int)} (hB : B ≤ w.heap.size) (hQ : ∀ k, Q k → k < w.heap.size) (h1 : TX P w bt L ng) (h3 : ∀ k, P k → ¬ G k) (h4 : ∀ k, P k → B ≤ k ∧ k < w.heap.size ∧ ¬ Q k) (h5 : ∀ k, G k → B ≤ k ∧ k < w.heap.size ∧ ¬ Q k) (hA : AfX G w bx R W) :
    Duo B Q W bt bx ng L R ∧ Fr (fun k => B ≤ k ∧ ¬ Q k) w W := by
  have hs := hA.2.size
  refine ⟨⟨P, _, h1.fr hA.2 h3, hA.1.bound, fun k hk hg => ?_, fun k hk => ⟨(h4 k hk).1, by have := h4 k hk; omega, (h4 k hk).2.2⟩, fun k hk => ?_⟩, hA.2.mono (fun k _ hk => ⟨(h5 k hk).1, (h5 k hk).2.2⟩)⟩
  · rcases hg.1 with e | e
    · exact h3 k hk e
    · have := h4 k hk; omega
  · rcases hk.1 with e | e
    · exact ⟨(h5 k e).1, hk.2, (h5 k e).2.2⟩
    · exact ⟨by omega, hk.2, fun q => by have := hQ k q; omega⟩
theorem Duo.ne (h : Duo B Q w bt bx ng L X) : L ≠ [] := by obtain ⟨P, G, h1, _⟩ := h; exact h1.ne
theorem Duo.size (h : Duo B Q w bt bx ng L X) : sizeN (lens L) ≤ 65537 := by obtain ⟨P, G, h1, _⟩ := h; exact h1.size

theorem duo_t_ins (h : Duo B Q w bt bx ng L X) (hB : B ≤ w.heap.size) (hQ : ∀ k, Q k → k < w.heap.size) (i c : Int) (la : Option Addr) (ln lc : Nat) (l : List Int) (hr : Rd .i32 w la ln lc l) (hin : InF (fun k => k < w.heap.size ∧ (k < B ∨ Q k)) la ln) (hi : i64b i) (hc : i64b c) (hng : ng + 131072 ≤ lim) :
    Calls Try.prog 26 #[.pointer (some ⟨bt, 0, none⟩), .agg #[.int .i64 i, .int .i64 c], .slice la ln lc] w fun e w' => e = .returned (.int .i64 (insT L i c l).2) ∧ Duo B Q w' bt bx (ng + 65536) (insT L i c l).1 X ∧ Fr (fun k => B ≤ k ∧ ¬ Q k) w w' := by
  obtain ⟨P, G, h1, h2, h3, h4, h5⟩ := h
  refine (insertT_any P (fun k => k < w.heap.size ∧ (k < B ∨ Q k)) bt ng L i c la ln lc l w h1 hi hc hr hin (fun k hk => ⟨hk.1, fun hp => by
    have := h4 k hp
    rcases hk.2 with e | e
    · omega
    · exact this.2.2 e⟩) hng).mono ?_
  rintro e w' ⟨rfl, hA⟩
  exact ⟨rfl, Duo.t hB hQ h2 h3 h4 h5 hA⟩
theorem duo_t_del (h : Duo B Q w bt bx ng L X) (hB : B ≤ w.heap.size) (hQ : ∀ k, Q k → k < w.heap.size) (i c j d : Int) (hi : i64b i) (hc : i64b c) (hj : i64b j) (hd : i64b d) (hng : ng + 131072 ≤ lim) :
    Calls Try.prog 28 #[.pointer (some ⟨bt, 0, none⟩), .agg #[.int .i64 i, .int .i64 c], .agg #[.int .i64 j, .int .i64 d]] w fun e w' => e = .returned (.int .i64 (delT L i c j d).2) ∧ Duo B Q w' bt bx (ng + 65536) (delT L i c j d).1 X ∧ Fr (fun k => B ≤ k ∧ ¬ Q k) w w' := by
  obtain ⟨P, G, h1, h2, h3, h4, h5⟩ := h
  refine (deleteT_any P bt ng L i c j d w h1 hi hc hj hd hng).mono ?_
  rintro e w' ⟨rfl, hA⟩
  exact ⟨rfl, Duo.t hB hQ h2 h3 h4 h5 hA⟩
theorem duo_t_rep (h : Duo B Q w bt bx ng L X) (hB : B ≤ w.heap.size) (hQ : ∀ k, Q k → k < w.heap.size) (i n : Int) (la : Option Addr) (ln lc : Nat) (M : List (List Int)) (hr : RdL (fun k => k < w.heap.size ∧ (k < B ∨ Q k)) w la ln lc M) (hi : i64b i) (hn : i64b n) (hms : sizeN (lens M) ≤ 4611686018427387904) (hng : ng + 131072 ≤ lim) :
    Calls Try.prog 30 #[.pointer (some ⟨bt, 0, none⟩), .int .i64 i, .int .i64 n, .slice la ln lc] w fun e w' => e = .returned (.int .i64 (repT L i n M).2) ∧ Duo B Q w' bt bx (ng + 65536) (repT L i n M).1 X ∧ Fr (fun k => B ≤ k ∧ ¬ Q k) w w' := by
  obtain ⟨P, G, h1, h2, h3, h4, h5⟩ := h
  refine (replaceT_any P (fun k => k < w.heap.size ∧ (k < B ∨ Q k)) bt ng i n L M la ln lc w h1 hi hn hr (fun k hk => ⟨hk.1, fun hp => by
    have := h4 k hp
    rcases hk.2 with e | e
    · omega
    · exact this.2.2 e⟩) hms hng).mono ?_
  rintro e w' ⟨rfl, hA⟩
  exact ⟨rfl, Duo.t hB hQ h2 h3 h4 h5 hA⟩
theorem duo_x_ins (h : Duo B Q w bt bx ng L X) (hB : B ≤ w.heap.size) (hQ : ∀ k, Q k → k < w.heap.size) (hne : X ≠ []) (hs : sizeN (lens X) ≤ 1048576) (i c : Int) (la : Option Addr) (ln lc : Nat) (l : List Int) (hr : Rd .i32 w la ln lc l) (hi : i64b i) (hc : i64b c) :
    Calls Try.prog 33 #[.pointer (some ⟨bx, 0, none⟩), .agg #[.int .i64 i, .int .i64 c], .slice la ln lc] w fun e w' => e = .returned (.int .i64 (insT X i c l).2) ∧ Duo B Q w' bt bx ng L (insT X i c l).1 ∧ Fr (fun k => B ≤ k ∧ ¬ Q k) w w' := by
  obtain ⟨P, G, h1, h2, h3, h4, h5⟩ := h
  refine (rinsert_any G bx X i c la ln lc l w h2 hne hs hi hc hr).mono ?_
  rintro e w' ⟨rfl, hA⟩
  exact ⟨rfl, Duo.x hB hQ h1 h3 h4 h5 hA⟩
theorem duo_x_del (h : Duo B Q w bt bx ng L X) (hB : B ≤ w.heap.size) (hQ : ∀ k, Q k → k < w.heap.size) (hne : X ≠ []) (hs : sizeN (lens X) ≤ 1048576) (i c j d : Int) (hi : i64b i) (hc : i64b c) (hj : i64b j) (hd : i64b d) :
    Calls Try.prog 34 #[.pointer (some ⟨bx, 0, none⟩), .agg #[.int .i64 i, .int .i64 c], .agg #[.int .i64 j, .int .i64 d]] w fun e w' => e = .returned (.int .i64 (delT X i c j d).2) ∧ Duo B Q w' bt bx ng L (delT X i c j d).1 ∧ Fr (fun k => B ≤ k ∧ ¬ Q k) w w' := by
  obtain ⟨P, G, h1, h2, h3, h4, h5⟩ := h
  refine (rdelete_any G bx X i c j d w h2 hne hs hi hc hj hd).mono ?_
  rintro e w' ⟨rfl, hA⟩
  exact ⟨rfl, Duo.x hB hQ h1 h3 h4 h5 hA⟩
theorem duo_x_rep (h : Duo B Q w bt bx ng L X) (hB : B ≤ w.heap.size) (hQ : ∀ k, Q k → k < w.heap.size) (hs : sizeN (lens X) ≤ 262144) (i n : Int) (F : Nat → Prop) (ma : Option Addr) (mn mc : Nat) (M : List (List Int)) (hi : i64b i) (hn : i64b n) (hm : RdL F w ma mn mc M) (hms : sizeN (lens M) ≤ 262144) :
    Calls Try.prog 36 #[.pointer (some ⟨bx, 0, none⟩), .int .i64 i, .int .i64 n, .slice ma mn mc] w fun e w' => e = .returned (.int .i64 (repT X i n M).2) ∧ Duo B Q w' bt bx ng L (repT X i n M).1 ∧ Fr (fun k => B ≤ k ∧ ¬ Q k) w w' := by
  obtain ⟨P, G, h1, h2, h3, h4, h5⟩ := h
  refine (rreplace_any G bx X i n F ma mn mc M w h2 hs hi hn hm hms).mono ?_
  rintro e w' ⟨rfl, hA⟩
  exact ⟨rfl, Duo.x hB hQ h1 h3 h4 h5 hA⟩
theorem duo_t_sli (h : Duo B Q w bt bx ng L X) (i c j d : Int) (hi : i64b i) (hc : i64b c) (hj : i64b j) (hd : i64b d) (hng : ng ≤ lim) :
    Calls Try.prog 27 #[.pointer (some ⟨bt, 0, none⟩), .agg #[.int .i64 i, .int .i64 c], .agg #[.int .i64 j, .int .i64 d]] w fun e w' => ∃ a' c', e = .returned (.tuple #[.slice a' (sliT L i c j d).1.length c', .int .i64 (sliT L i c j d).2]) ∧ w'.ownsRow w.heap.size 21 1 (.slice a' (sliT L i c j d).1.length c') (sliT L i c j d).1.length (ints (sliT L i c j d).1) ∧ Below w.heap.size w w' := by
  obtain ⟨P, G, h1, h2, h3, h4, h5⟩ := h
  exact sliceT_any P bt ng L i c j d w h1 hi hc hj hd hng
theorem duo_x_sli (h : Duo B Q w bt bx ng L X) (hne : X ≠ []) (hs : sizeN (lens X) ≤ 1048576) (i c j d : Int) (hi : i64b i) (hc : i64b c) (hj : i64b j) (hd : i64b d) :
    Calls Try.prog 35 #[.pointer (some ⟨bx, 0, none⟩), .agg #[.int .i64 i, .int .i64 c], .agg #[.int .i64 j, .int .i64 d]] w fun e w' => ∃ a' c', e = .returned (.tuple #[.slice a' (sliT X i c j d).1.length c', .int .i64 (sliT X i c j d).2]) ∧ Rd .i32 w' a' (sliT X i c j d).1.length c' (sliT X i c j d).1 ∧ Below w.heap.size w w' := by
  obtain ⟨P, G, h1, h2, h3, h4, h5⟩ := h
  exact rslice_any G bx X i c j d w h2 hne hs hi hc hj hd
end
end Go.Proofs.Ytndlebopfojjeaa.U

namespace Go.Proofs.Ytndlebopfojjeaa.U
open Go.RowKit
set_option linter.unusedVariables false
set_option linter.unusedSimpArgs false
set_option maxRecDepth 100000

def noQ : Nat → Prop := fun _ => False
def DoP (B bt bx ng : Nat) (w w' : World) : Prop := ∃ R, Duo B noQ w' bt bx (ng + 65536) R R ∧ Below B w w'
theorem box8 (w wb : World) (cs : Array Value) (hwb : w.alloc (.cells cs 33) = wb) : Below w.heap.size w wb ∧ wb.heap[w.heap.size]? = some (.cells cs 33 (0, 0)) ∧ wb.heap.size = w.heap.size + 1 := by
  rw [← hwb]
  exact ⟨(Below.refl _ _).alloc (Nat.le_refl _) _, heap_alloc_new w _, by simp⟩

set_option maxHeartbeats 4000000 in
theorem do_del (B : Nat) (w : World) (bt bx ng : Nat) (L : List (List Int)) (hB : B ≤ w.heap.size) (h : Duo B noQ w bt bx ng L L) (hng : ng + 131072 ≤ lim) (n i c j d : Int) (al : Option Addr) (ll cl : Nat) (ma : Option Addr) (mn mc : Nat) (hi : i64b i) (hc : i64b c) (hj : i64b j) (hd : i64b d) :
    Calls Try.prog 12 #[.pointer (some ⟨bt, 0, none⟩), .pointer (some ⟨bx, 0, none⟩), .agg #[.int .i64 1, .int .i64 n, .int .i64 i, .int .i64 c, .int .i64 j, .int .i64 d, .slice al ll cl, .slice ma mn mc]] w fun e w' => e = .returned (.bool true) ∧ DoP B bt bx ng w w' := by
  obtain ⟨wb, hwb⟩ : ∃ wb, w.alloc (.cells #[.int .i64 1, .int .i64 n, .int .i64 i, .int .i64 c, .int .i64 j, .int .i64 d, .slice al ll cl, .slice ma mn mc] 33) = wb := ⟨_, rfl⟩
  obtain ⟨hbl, hcell, hsz⟩ := box8 w wb _ hwb
  obtain ⟨b, hb⟩ : ∃ b, w.heap.size = b := ⟨_, rfl⟩
  rw [hb] at hcell hsz hB
  have HNE := Lib.hid h.ne
  have HSZ := Lib.hid h.size
  have HH : Hid (Duo B (fun k => noQ k ∨ k = b) wb bt bx ng L L) := h.more (N := fun k => k = b) hbl (fun k hk => by omega)
  have HBW : Hid (Below B w wb) := hbl.mono (by omega)
  have HSS : Hid (B ≤ b ∧ wb.heap.size = b + 1) := ⟨hB, hsz⟩
  have HT : Hid (∀ W, Below wb.heap.size wb W → Calls Try.prog 28 #[.pointer (some ⟨bt, 0, none⟩), .agg #[.int .i64 i, .int .i64 c], .agg #[.int .i64 j, .int .i64 d]] W fun e w' => e = .returned (.int .i64 (delT L i c j d).2) ∧ w'.cell? ⟨b, 2, none⟩ = some (.int .i64 i) ∧ w'.cell? ⟨b, 3, none⟩ = some (.int .i64 c) ∧ w'.cell? ⟨b, 4, none⟩ = some (.int .i64 j) ∧ w'.cell? ⟨b, 5, none⟩ = some (.int .i64 d) ∧ b < w'.heap.size ∧
      Hid (Duo B (fun k => noQ k ∨ k = b) w' bt bx (ng + 65536) (delT L i c j d).1 L ∧ Below B w w' ∧ b < w'.heap.size)) := by
    intro W hW
    have hWs := hW.size
    obtain ⟨z1, z2⟩ := HSS.out
    refine (duo_t_del (HH.out.below hW) (by omega) (fun k hk => by rcases hk with e | e; exact e.elim; omega) i c j d hi hc hj hd hng).mono ?_
    rintro e w' ⟨rfl, hbo, hf⟩
    have hc := (hf.block b (by omega) (fun hk => hk.2 (.inr rfl))).trans ((hW.block b (by omega)).trans hcell)
    exact ⟨rfl, cell_row hc 2, cell_row hc 3, cell_row hc 4, cell_row hc 5, heap_lt hc, hbo, (HBW.out.trans (hW.mono (by omega))).trans (hf.below (by omega) (fun k hk => hk.1)), heap_lt hc⟩
  have HX : Hid (∀ W, Hid (Duo B (fun k => noQ k ∨ k = b) W bt bx (ng + 65536) (delT L i c j d).1 L ∧ Below B w W ∧ b < W.heap.size) → W.cell? ⟨b, 2, none⟩ = some (.int .i64 i) → W.cell? ⟨b, 3, none⟩ = some (.int .i64 c) → W.cell? ⟨b, 4, none⟩ = some (.int .i64 j) → W.cell? ⟨b, 5, none⟩ = some (.int .i64 d) →
      Calls Try.prog 34 #[.pointer (some ⟨bx, 0, none⟩), .agg #[.int .i64 i, .int .i64 c], .agg #[.int .i64 j, .int .i64 d]] W fun e w' => e = .returned (.int .i64 (delT L i c j d).2) ∧ w'.cell? ⟨b, 2, none⟩ = some (.int .i64 i) ∧ w'.cell? ⟨b, 3, none⟩ = some (.int .i64 c) ∧ w'.cell? ⟨b, 4, none⟩ = some (.int .i64 j) ∧ w'.cell? ⟨b, 5, none⟩ = some (.int .i64 d) ∧ Hid (DoP B bt bx ng w w')) := by
    intro W hW h1 h2 h3 h4
    obtain ⟨z1, z2⟩ := HSS.out
    obtain ⟨y1, y2, y3⟩ := hW.out
    refine (duo_x_del y1 (by omega) (fun k hk => by rcases hk with e | e; exact e.elim; omega) HNE.out (by have := HSZ.out; omega) i c j d hi hc hj hd).mono ?_
    rintro e w' ⟨rfl, hbo, hf⟩
    have hbk : w'.heap[b]? = W.heap[b]? := hf.block b y3 (fun hk => hk.2 (.inr rfl))
    exact ⟨rfl, (World.cell?_of_block (a := ⟨b, 2, none⟩) hbk).trans h1, (World.cell?_of_block (a := ⟨b, 3, none⟩) hbk).trans h2, (World.cell?_of_block (a := ⟨b, 4, none⟩) hbk).trans h3, (World.cell?_of_block (a := ⟨b, 5, none⟩) hbk).trans h4, _, hbo.less (fun k hk => .inl hk), y2.trans (hf.below (by omega) (fun k hk => hk.1))⟩
  have c0 : wb.cell? ⟨b, 0, none⟩ = some (.int .i64 1) := cell_row hcell 0
  have c2 : wb.cell? ⟨b, 2, none⟩ = some (.int .i64 i) := cell_row hcell 2
  have c3 : wb.cell? ⟨b, 3, none⟩ = some (.int .i64 c) := cell_row hcell 3
  have c4 : wb.cell? ⟨b, 4, none⟩ = some (.int .i64 j) := cell_row hcell 4
  have c5 : wb.cell? ⟨b, 5, none⟩ = some (.int .i64 d) := cell_row hcell 5
  have hbw : b < wb.heap.size := by omega
  obtain ⟨d1, hd1⟩ : ∃ d1, (delT L i c j d).2 = d1 := ⟨_, rfl⟩
  rw [hd1] at HT HX
  have HWB := Lib.hid hwb
  have HBb := Lib.hid hb
  have t9 : (d1 == d1) = true := by simp
  clear hwb hb hd1 hbl hcell hsz hB h HH HBW HSS hng hi hc hj hd
  go_enter Try.func12, Try.ntmps12
  go_upto_region 1 with fail
  rw [HWB.out, HBb.out]
  go_wp2_with fail
  go_region_held3 (fun w' => w'.cell? ⟨b, 2, none⟩ = some (.int .i64 i) ∧ w'.cell? ⟨b, 3, none⟩ = some (.int .i64 c) ∧ w'.cell? ⟨b, 4, none⟩ = some (.int .i64 j) ∧ w'.cell? ⟨b, 5, none⟩ = some (.int .i64 d))
    (first | exact ⟨c2, c3, c4, c5⟩ | exact ⟨k2, k3, k4, k5⟩ | exact ⟨m2, m3, m4, m5⟩)
    (first
      | (go_at_call 28; refine (HT.out _ (by first | exact Below.refl _ _ | exact (Below.refl _ _).drew)).mono ?_; rintro e w2 ⟨rfl, k2, k3, k4, k5, hbw2, hbo⟩)
      | (go_at_call 34; refine (HX.out _ hbo k2 k3 k4 k5).mono ?_; rintro e w3 ⟨rfl, m2, m3, m4, m5, hfin⟩))
  all_goals
    go_wp2_with fail
    go_ret
    exact ⟨by first | rfl | simp, hfin.out⟩

set_option maxHeartbeats 4000000 in
theorem do_sli (B : Nat) (w : World) (bt bx ng : Nat) (L : List (List Int)) (hB : B ≤ w.heap.size) (h : Duo B noQ w bt bx ng L L) (hng : ng + 131072 ≤ lim) (n i c j d : Int) (al : Option Addr) (ll cl : Nat) (ma : Option Addr) (mn mc : Nat) (hi : i64b i) (hc : i64b c) (hj : i64b j) (hd : i64b d) :
    Calls Try.prog 12 #[.pointer (some ⟨bt, 0, none⟩), .pointer (some ⟨bx, 0, none⟩), .agg #[.int .i64 2, .int .i64 n, .int .i64 i, .int .i64 c, .int .i64 j, .int .i64 d, .slice al ll cl, .slice ma mn mc]] w fun e w' => e = .returned (.bool true) ∧ DoP B bt bx ng w w' := by
  obtain ⟨wb, hwb⟩ : ∃ wb, w.alloc (.cells #[.int .i64 2, .int .i64 n, .int .i64 i, .int .i64 c, .int .i64 j, .int .i64 d, .slice al ll cl, .slice ma mn mc] 33) = wb := ⟨_, rfl⟩
  obtain ⟨hbl, hcell, hsz⟩ := box8 w wb _ hwb
  obtain ⟨b, hb⟩ : ∃ b, w.heap.size = b := ⟨_, rfl⟩
  have HH := Lib.hid (h.below hbl)
  have HNE := Lib.hid h.ne
  have HSZ := Lib.hid h.size
  have HBW : Hid (Below B w wb ∧ B ≤ wb.heap.size) := ⟨hbl.mono hB, by omega⟩
  have hT := duo_t_sli HH.out i c j d hi hc hj hd (by omega)
  have HX : Hid (∀ W, Below wb.heap.size wb W → Calls Try.prog 35 #[.pointer (some ⟨bx, 0, none⟩), .agg #[.int .i64 i, .int .i64 c], .agg #[.int .i64 j, .int .i64 d]] W fun e w' => ∃ a' c', e = .returned (.tuple #[.slice a' (sliT L i c j d).1.length c', .int .i64 (sliT L i c j d).2]) ∧ Rd .i32 w' a' (sliT L i c j d).1.length c' (sliT L i c j d).1 ∧ Below W.heap.size W w') :=
    fun W hW => duo_x_sli (HH.out.below hW) HNE.out (by have := HSZ.out; omega) i c j d hi hc hj hd
  rw [hb] at hcell
  obtain ⟨S, hS⟩ : ∃ S, (sliT L i c j d).1 = S := ⟨_, rfl⟩
  obtain ⟨er, her⟩ : ∃ er, (sliT L i c j d).2 = er := ⟨_, rfl⟩
  rw [hS, her] at hT HX
  obtain ⟨m, hm⟩ : ∃ m, S.length = m := ⟨_, rfl⟩
  rw [hm] at hT HX
  have HT := Lib.hid hT
  have HC : Hid (∀ W, Below wb.heap.size wb W → W.cell? ⟨b, 2, none⟩ = some (.int .i64 i) ∧ W.cell? ⟨b, 3, none⟩ = some (.int .i64 c) ∧ W.cell? ⟨b, 4, none⟩ = some (.int .i64 j) ∧ W.cell? ⟨b, 5, none⟩ = some (.int .i64 d) ∧ b < W.heap.size) := by
    intro W hW
    have := (hW.block b (heap_lt hcell)).trans hcell
    exact ⟨cell_row this 2, cell_row this 3, cell_row this 4, cell_row this 5, heap_lt this⟩
  have HWFS : Hid (∀ x ∈ S, (Lit.int .i32 x).wf = true) := by
    obtain ⟨P, G, _, hg, _⟩ := h
    obtain ⟨ra, nr, rc, hrl, _⟩ := hg.cell
    intro x hx
    rw [← hS] at hx
    unfold sliT at hx
    split at hx
    · exact rdl_wf hrl x (List.mem_of_mem_drop (List.mem_of_mem_take hx))
    · cases hx
  have c0 : wb.cell? ⟨b, 0, none⟩ = some (.int .i64 2) := cell_row hcell 0
  obtain ⟨c2, c3, c4, c5, hbw⟩ := HC.out wb (Below.refl _ _)
  have HWB := Lib.hid hwb
  have HBb := Lib.hid hb
  clear hwb hb hbl hcell hsz hB h hng hi hc hj hd hS her hm hT
  go_enter Try.func12, Try.ntmps12
  go_upto_region 1 with fail
  rw [HWB.out, HBb.out]
  go_wp2_with fail
  refine HT.out.mono ?_
  rintro e w1 ⟨a1, c1, rfl, ho1, hb1⟩
  have HB1 := Lib.hid hb1
  have HO1 := Lib.hid ho1
  have HX1 := Lib.hid (HX.out w1 hb1)
  obtain ⟨k2, k3, k4, k5, hbw1⟩ := HC.out w1 hb1
  clear c0 c2 c3 c4 c5 hbw hb1 ho1 HT HX
  go_wp2_with fail
  refine HX1.out.mono ?_
  rintro e w2 ⟨a2, c2', rfl, hr2, hb2⟩
  have hRN := runes_any a1 a2 m m c1 c2' S S w2 (own_rd (own_fr HO1.out (Fr.of_below (fun _ => False) hb2) (fun _ _ h => h)) HWFS.out) hr2
  rw [decide_eq_true (rfl : S = S)] at hRN
  have HRN := Lib.hid hRN
  have HB2 : Hid (Below wb.heap.size wb w2) := HB1.out.trans (hb2.mono HB1.out.size)
  clear k2 k3 k4 k5 hbw1 hr2 hb2 hRN HX1
  have t9 : (er == er) = true := by simp
  go_wp2_with fail
  refine HRN.out.mono ?_
  rintro e w3 ⟨rfl, hb3⟩
  have HB3 : Hid (Below wb.heap.size wb w3) := HB2.out.trans (hb3.mono HB2.out.size)
  clear hb3
  go_wp2_with fail
  go_ret
  exact ⟨by first | rfl | simp, _, (HH.out.below HB3.out).mono (by omega), HBW.out.1.trans (HB3.out.mono HBW.out.2)⟩

set_option maxHeartbeats 4000000 in
theorem do_rep (B : Nat) (w : World) (bt bx ng : Nat) (L : List (List Int)) (hB : B ≤ w.heap.size) (h : Duo B noQ w bt bx ng L L) (hng : ng + 131072 ≤ lim) (k n i c j d : Int) (al : Option Addr) (ll cl : Nat) (ma : Option Addr) (mn mc : Nat) (M : List (List Int)) (hk0 : ¬ k = 0) (hk1 : ¬ k = 1) (hk2 : ¬ k = 2) (hi : i64b i) (hn : i64b n)
    (hm : ∀ W, Below B w W → RdL (fun x => x < B) W ma mn mc M) (hms : sizeN (lens M) ≤ 262144) :
    Calls Try.prog 12 #[.pointer (some ⟨bt, 0, none⟩), .pointer (some ⟨bx, 0, none⟩), .agg #[.int .i64 k, .int .i64 n, .int .i64 i, .int .i64 c, .int .i64 j, .int .i64 d, .slice al ll cl, .slice ma mn mc]] w fun e w' => e = .returned (.bool true) ∧ DoP B bt bx ng w w' := by
  obtain ⟨wb, hwb⟩ : ∃ wb, w.alloc (.cells #[.int .i64 k, .int .i64 n, .int .i64 i, .int .i64 c, .int .i64 j, .int .i64 d, .slice al ll cl, .slice ma mn mc] 33) = wb := ⟨_, rfl⟩
  obtain ⟨hbl, hcell, hsz⟩ := box8 w wb _ hwb
  obtain ⟨b, hb⟩ : ∃ b, w.heap.size = b := ⟨_, rfl⟩
  rw [hb] at hcell hsz hB
  have HNE := Lib.hid h.ne
  have HSZ := Lib.hid h.size
  have HH : Hid (Duo B (fun x => noQ x ∨ x = b) wb bt bx ng L L) := h.more (N := fun x => x = b) hbl (fun x hx => by omega)
  have HBW : Hid (Below B w wb) := hbl.mono (by omega)
  have HSS : Hid (B ≤ b ∧ wb.heap.size = b + 1) := ⟨hB, hsz⟩
  have HM := Lib.hid hm
  have HTW : Hid (∀ W, Below wb.heap.size wb W → Calls Try.prog 32 #[.slice ma mn mc] W fun e w' => ∃ a' c', e = .returned (.slice a' mn c') ∧ w'.cell? ⟨b, 1, none⟩ = some (.int .i64 n) ∧ w'.cell? ⟨b, 2, none⟩ = some (.int .i64 i) ∧ w'.cell? ⟨b, 7, none⟩ = some (.slice ma mn mc) ∧ b < w'.heap.size ∧
      Hid (FreshL wb.heap.size w' a' mn c' M ∧ Below wb.heap.size wb w')) := by
    intro W hW
    refine (rtwin_any _ ma mn mc M W (HM.out W (HBW.out.trans (hW.mono (by have := HSS.out; omega)))) (by omega)).mono ?_
    rintro e w' ⟨a', c', rfl, hf, hb'⟩
    have hbb : Below wb.heap.size wb w' := hW.trans (hb'.mono hW.size)
    have hc := (hbb.block b (by have := HSS.out; omega)).trans hcell
    refine ⟨a', c', rfl, cell_row hc 1, cell_row hc 2, cell_row hc 7, heap_lt hc, ?_, hbb⟩
    obtain ⟨vs, f1, f2, f3, f4⟩ := hf
    exact ⟨vs, own_mono f1 hW.size, f2, fun x y hx => by obtain ⟨v, g1, g2⟩ := f3 x y hx; exact ⟨v, g1, own_mono g2 hW.size⟩, f4⟩
  have HT : Hid (∀ W a' c', Hid (FreshL wb.heap.size W a' mn c' M ∧ Below wb.heap.size wb W) → Calls Try.prog 30 #[.pointer (some ⟨bt, 0, none⟩), .int .i64 i, .int .i64 n, .slice a' mn c'] W fun e w' => e = .returned (.int .i64 (repT L i n M).2) ∧ w'.cell? ⟨b, 1, none⟩ = some (.int .i64 n) ∧ w'.cell? ⟨b, 2, none⟩ = some (.int .i64 i) ∧ w'.cell? ⟨b, 7, none⟩ = some (.slice ma mn mc) ∧ b < w'.heap.size ∧
      Hid (Duo B (fun x => noQ x ∨ x = b) w' bt bx (ng + 65536) (repT L i n M).1 L ∧ Below B w w' ∧ b < w'.heap.size)) := by
    intro W a' c' hW
    obtain ⟨hf, hbb⟩ := hW.out
    have hWs := hbb.size
    obtain ⟨z1, z2⟩ := HSS.out
    have hwM : ∀ x ∈ M, ∀ y ∈ x, (Lit.int .i32 y).wf = true := lines_wf (rdl_wf (HM.out w (Below.refl _ _)))
    have hr := (hf.rdl hwM).bound
    refine (duo_t_rep (HH.out.more (N := fun x => wb.heap.size ≤ x ∧ x < W.heap.size) hbb (fun x hx => hx.1)) (by omega) (fun x hx => by rcases hx with (e | e) | e; exact e.elim; omega; omega) i n a' mn c' M (hr.mono (fun x hx => ⟨hx.2, .inr (.inr hx)⟩)) hi hn (by omega) hng).mono ?_
    rintro e w' ⟨rfl, hbo, hfr⟩
    have hc := (hfr.block b (by omega) (fun hk => hk.2 (.inl (.inr rfl)))).trans ((hbb.block b (by omega)).trans hcell)
    exact ⟨rfl, cell_row hc 1, cell_row hc 2, cell_row hc 7, heap_lt hc, hbo.less (fun x hx => .inl hx), (HBW.out.trans (hbb.mono (by omega))).trans (hfr.below (by omega) (fun x hx => hx.1)), heap_lt hc⟩
  have HX : Hid (∀ W, Hid (Duo B (fun x => noQ x ∨ x = b) W bt bx (ng + 65536) (repT L i n M).1 L ∧ Below B w W ∧ b < W.heap.size) → W.cell? ⟨b, 1, none⟩ = some (.int .i64 n) → W.cell? ⟨b, 2, none⟩ = some (.int .i64 i) → W.cell? ⟨b, 7, none⟩ = some (.slice ma mn mc) →
      Calls Try.prog 36 #[.pointer (some ⟨bx, 0, none⟩), .int .i64 i, .int .i64 n, .slice ma mn mc] W fun e w' => e = .returned (.int .i64 (repT L i n M).2) ∧ w'.cell? ⟨b, 1, none⟩ = some (.int .i64 n) ∧ w'.cell? ⟨b, 2, none⟩ = some (.int .i64 i) ∧ w'.cell? ⟨b, 7, none⟩ = some (.slice ma mn mc) ∧ Hid (DoP B bt bx ng w w')) := by
    intro W hW h1 h2 h3
    obtain ⟨z1, z2⟩ := HSS.out
    obtain ⟨y1, y2, y3⟩ := hW.out
    refine (duo_x_rep y1 (by omega) (fun x hx => by rcases hx with e | e; exact e.elim; omega) (by have := HSZ.out; omega) i n _ ma mn mc M hi hn (HM.out W y2) hms).mono ?_
    rintro e w' ⟨rfl, hbo, hf⟩
    have hbk : w'.heap[b]? = W.heap[b]? := hf.block b y3 (fun hk => hk.2 (.inr rfl))
    exact ⟨rfl, (World.cell?_of_block (a := ⟨b, 1, none⟩) hbk).trans h1, (World.cell?_of_block (a := ⟨b, 2, none⟩) hbk).trans h2, (World.cell?_of_block (a := ⟨b, 7, none⟩) hbk).trans h3, _, hbo.less (fun x hx => .inl hx), y2.trans (hf.below (by omega) (fun x hx => hx.1))⟩
  have c0 : wb.cell? ⟨b, 0, none⟩ = some (.int .i64 k) := cell_row hcell 0
  have c1 : wb.cell? ⟨b, 1, none⟩ = some (.int .i64 n) := cell_row hcell 1
  have c2 : wb.cell? ⟨b, 2, none⟩ = some (.int .i64 i) := cell_row hcell 2
  have c7 : wb.cell? ⟨b, 7, none⟩ = some (.slice ma mn mc) := cell_row hcell 7
  have hbw : b < wb.heap.size := by omega
  obtain ⟨d1, hd1⟩ : ∃ d1, (repT L i n M).2 = d1 := ⟨_, rfl⟩
  rw [hd1] at HT HX
  have HWB := Lib.hid hwb
  have HBb := Lib.hid hb
  have t9 : (d1 == d1) = true := by simp
  clear hwb hb hd1 hbl hcell hsz hB h HH HBW HSS hng hi hn hm hms HM
  go_enter Try.func12, Try.ntmps12
  go_upto_region 1 with fail
  rw [HWB.out, HBb.out]
  go_wp2_with fail
  go_region_held3 (fun w' => w'.cell? ⟨b, 1, none⟩ = some (.int .i64 n) ∧ w'.cell? ⟨b, 2, none⟩ = some (.int .i64 i) ∧ w'.cell? ⟨b, 7, none⟩ = some (.slice ma mn mc))
    (first | exact ⟨c1, c2, c7⟩ | exact ⟨p1, p2, p7⟩ | exact ⟨k1, k2, k7⟩ | exact ⟨m1, m2, m7⟩)
    (first
      | (go_at_call 32; refine (HTW.out _ (by first | exact Below.refl _ _ | exact (Below.refl _ _).drew)).mono ?_; rintro e w1 ⟨a1, c1', rfl, p1, p2, p7, hbw1, hfb⟩)
      | (go_at_call 30; refine (HT.out _ _ _ hfb).mono ?_; rintro e w2 ⟨rfl, k1, k2, k7, hbw2, hbo⟩)
      | (go_at_call 36; refine (HX.out _ hbo k1 k2 k7).mono ?_; rintro e w3 ⟨rfl, m1, m2, m7, hfin⟩))
  all_goals
    go_wp2_with fail
    go_ret
    exact ⟨by first | rfl | simp, hfin.out⟩
end Go.Proofs.Ytndlebopfojjeaa.U

namespace Go.Proofs.Ytndlebopfojjeaa.U
open Go.RowKit
set_option linter.unusedVariables false
set_option linter.unusedSimpArgs false
set_option maxRecDepth 100000

set_option maxHeartbeats 4000000 in
theorem do_ins (B : Nat) (w : World) (bt bx ng : Nat) (L : List (List Int)) (hB : B ≤ w.heap.size) (h : Duo B noQ w bt bx ng L L) (hng : ng + 131072 ≤ lim) (n i c j d : Int) (al : Option Addr) (ll cl : Nat) (LL : List Int) (ma : Option Addr) (mn mc : Nat) (hi : i64b i) (hc : i64b c)
    (hr : ∀ W, Below B w W → Rd .i32 W al ll cl LL) (hll : ll ≤ 1048576) :
    Calls Try.prog 12 #[.pointer (some ⟨bt, 0, none⟩), .pointer (some ⟨bx, 0, none⟩), .agg #[.int .i64 0, .int .i64 n, .int .i64 i, .int .i64 c, .int .i64 j, .int .i64 d, .slice al ll cl, .slice ma mn mc]] w fun e w' => e = .returned (.bool true) ∧ DoP B bt bx ng w w' := by
  obtain ⟨wb, hwb⟩ : ∃ wb, w.alloc (.cells #[.int .i64 0, .int .i64 n, .int .i64 i, .int .i64 c, .int .i64 j, .int .i64 d, .slice al ll cl, .slice ma mn mc] 33) = wb := ⟨_, rfl⟩
  obtain ⟨hbl, hcell, hsz⟩ := box8 w wb _ hwb
  obtain ⟨b, hb⟩ : ∃ b, w.heap.size = b := ⟨_, rfl⟩
  rw [hb] at hcell hsz hB
  have HNE := Lib.hid h.ne
  have HSZ := Lib.hid h.size
  have HH : Hid (Duo B (fun x => noQ x ∨ x = b) wb bt bx ng L L) := h.more (N := fun x => x = b) hbl (fun x hx => by omega)
  have HBW : Hid (Below B w wb) := hbl.mono (by omega)
  have HSS : Hid (B ≤ b ∧ wb.heap.size = b + 1) := ⟨hB, hsz⟩
  have HR := Lib.hid hr
  have hwf : ∀ x ∈ LL, (Lit.int .i32 x).wf = true := (hr w (Below.refl _ _)).2.2.2.1
  obtain ⟨a2, c2', w2, hrun, ho, hb2⟩ := app_lit wb.drew al ll cl LL (hr wb.drew (HBW.out.drew)) (by omega)
  have hbb : Below wb.heap.size wb w2 := (Below.refl wb.heap.size wb).drew.trans hb2
  have hs2 := hbb.size
  have hc2 := (hbb.block b (by omega)).trans hcell
  have hbd : Below wb.heap.size wb (wb.drew.alloc (.cells #[] 21)) := (Below.refl _ wb).drew.alloc (Nat.le_refl _) _
  have hca := (hbd.block b (by omega)).trans hcell
  have HT : Hid (Calls Try.prog 26 #[.pointer (some ⟨bt, 0, none⟩), .agg #[.int .i64 i, .int .i64 c], .slice a2 ll c2'] w2 fun e w' => e = .returned (.int .i64 (insT L i c LL).2) ∧ w'.cell? ⟨b, 2, none⟩ = some (.int .i64 i) ∧ w'.cell? ⟨b, 3, none⟩ = some (.int .i64 c) ∧ w'.cell? ⟨b, 6, none⟩ = some (.slice al ll cl) ∧ b < w'.heap.size ∧
      Hid (Duo B (fun x => noQ x ∨ x = b) w' bt bx (ng + 65536) (insT L i c LL).1 L ∧ Below B w w' ∧ b < w'.heap.size)) := by
    refine (duo_t_ins (HH.out.more (N := fun x => wb.heap.size ≤ x ∧ x < w2.heap.size) hbb (fun x hx => hx.1)) (by omega) (fun x hx => by rcases hx with (e | e) | e; exact e.elim; omega; omega) i c a2 ll c2' LL (own_rd ho hwf) (InF.own ho (fun k e => ⟨(ho.lt k e).2, .inr (.inr ⟨(ho.lt k e).1, (ho.lt k e).2⟩)⟩)) hi hc hng).mono ?_
    rintro e w' ⟨rfl, hbo, hfr⟩
    have hc := (hfr.block b (by omega) (fun hk => hk.2 (.inl (.inr rfl)))).trans hc2
    exact ⟨rfl, cell_row hc 2, cell_row hc 3, cell_row hc 6, heap_lt hc, hbo.less (fun x hx => .inl hx), (HBW.out.trans (hbb.mono (by omega))).trans (hfr.below (by omega) (fun x hx => hx.1)), heap_lt hc⟩
  have HX : Hid (∀ W, Hid (Duo B (fun x => noQ x ∨ x = b) W bt bx (ng + 65536) (insT L i c LL).1 L ∧ Below B w W ∧ b < W.heap.size) → W.cell? ⟨b, 2, none⟩ = some (.int .i64 i) → W.cell? ⟨b, 3, none⟩ = some (.int .i64 c) → W.cell? ⟨b, 6, none⟩ = some (.slice al ll cl) →
      Calls Try.prog 33 #[.pointer (some ⟨bx, 0, none⟩), .agg #[.int .i64 i, .int .i64 c], .slice al ll cl] W fun e w' => e = .returned (.int .i64 (insT L i c LL).2) ∧ w'.cell? ⟨b, 2, none⟩ = some (.int .i64 i) ∧ w'.cell? ⟨b, 3, none⟩ = some (.int .i64 c) ∧ w'.cell? ⟨b, 6, none⟩ = some (.slice al ll cl) ∧ Hid (DoP B bt bx ng w w')) := by
    intro W hW h1 h2 h3
    obtain ⟨z1, z2⟩ := HSS.out
    obtain ⟨y1, y2, y3⟩ := hW.out
    refine (duo_x_ins y1 (by omega) (fun x hx => by rcases hx with e | e; exact e.elim; omega) HNE.out (by have := HSZ.out; omega) i c al ll cl LL (HR.out W y2) hi hc).mono ?_
    rintro e w' ⟨rfl, hbo, hf⟩
    have hbk : w'.heap[b]? = W.heap[b]? := hf.block b y3 (fun hk => hk.2 (.inr rfl))
    exact ⟨rfl, (World.cell?_of_block (a := ⟨b, 2, none⟩) hbk).trans h1, (World.cell?_of_block (a := ⟨b, 3, none⟩) hbk).trans h2, (World.cell?_of_block (a := ⟨b, 6, none⟩) hbk).trans h3, _, hbo.less (fun x hx => .inl hx), y2.trans (hf.below (by omega) (fun x hx => hx.1))⟩
  have c0 : wb.cell? ⟨b, 0, none⟩ = some (.int .i64 0) := cell_row hcell 0
  have c2 : wb.cell? ⟨b, 2, none⟩ = some (.int .i64 i) := cell_row hcell 2
  have c3 : wb.cell? ⟨b, 3, none⟩ = some (.int .i64 c) := cell_row hcell 3
  have c6 : wb.cell? ⟨b, 6, none⟩ = some (.slice al ll cl) := cell_row hcell 6
  have p2 : (wb.drew.alloc (.cells #[] 21)).cell? ⟨b, 2, none⟩ = some (.int .i64 i) := cell_row hca 2
  have p3 : (wb.drew.alloc (.cells #[] 21)).cell? ⟨b, 3, none⟩ = some (.int .i64 c) := cell_row hca 3
  have p6 : (wb.drew.alloc (.cells #[] 21)).cell? ⟨b, 6, none⟩ = some (.slice al ll cl) := cell_row hca 6
  have q2 : w2.cell? ⟨b, 2, none⟩ = some (.int .i64 i) := cell_row hc2 2
  have q3 : w2.cell? ⟨b, 3, none⟩ = some (.int .i64 c) := cell_row hc2 3
  have q6 : w2.cell? ⟨b, 6, none⟩ = some (.slice al ll cl) := cell_row hc2 6
  have hbw : b < wb.heap.size := by omega
  have hbw2 : b < w2.heap.size := by omega
  obtain ⟨d1, hd1⟩ : ∃ d1, (insT L i c LL).2 = d1 := ⟨_, rfl⟩
  rw [hd1] at HT HX
  have HRUN := Lib.hid hrun
  have HWB := Lib.hid hwb
  have HBb := Lib.hid hb
  have t9 : (d1 == d1) = true := by simp
  clear hwb hb hd1 hbl hcell hsz hB h HH HBW HSS hng hi hc hr hll HR hwf hrun ho hb2 hbb hs2 hc2 hbd hca
  go_enter Try.func12, Try.ntmps12
  go_upto_region 1 with fail
  rw [HWB.out, HBb.out]
  go_wp2_with fail
  go_region_held3 (fun w' => w'.cell? ⟨b, 2, none⟩ = some (.int .i64 i) ∧ w'.cell? ⟨b, 3, none⟩ = some (.int .i64 c) ∧ w'.cell? ⟨b, 6, none⟩ = some (.slice al ll cl))
    (first | exact ⟨c2, c3, c6⟩ | exact ⟨p2, p3, p6⟩ | exact ⟨q2, q3, q6⟩ | exact ⟨k2, k3, k6⟩ | exact ⟨m2, m3, m6⟩)
    (first
      | (refine step_append_run rfl (.tmp 18) (.tmp 20) _ _ rfl _ _ (by simp [Act.eval, Act.put]) (by simp [Act.eval, Act.put]) (HRUN.out _) ?_)
      | (go_at_call 26; refine HT.out.mono ?_; rintro e w3 ⟨rfl, k2, k3, k6, hbw3, hbo⟩)
      | (go_at_call 33; refine (HX.out _ hbo k2 k3 k6).mono ?_; rintro e w4 ⟨rfl, m2, m3, m6, hfin⟩))
  all_goals
    go_wp2_with fail
    go_ret
    exact ⟨by first | rfl | simp, hfin.out⟩

/-- any deed -/
theorem do_any (B : Nat) (w : World) (bt bx ng : Nat) (L : List (List Int)) (hB : B ≤ w.heap.size) (h : Duo B noQ w bt bx ng L L) (hng : ng + 131072 ≤ lim) (k n i c j d : Int) (al : Option Addr) (ll cl : Nat) (LL : List Int) (ma : Option Addr) (mn mc : Nat) (M : List (List Int)) (hn : i64b n) (hi : i64b i) (hc : i64b c) (hj : i64b j) (hd : i64b d)
    (hr : ∀ W, Below B w W → Rd .i32 W al ll cl LL) (hll : ll ≤ 1048576) (hm : ∀ W, Below B w W → RdL (fun x => x < B) W ma mn mc M) (hms : sizeN (lens M) ≤ 262144) :
    Calls Try.prog 12 #[.pointer (some ⟨bt, 0, none⟩), .pointer (some ⟨bx, 0, none⟩), .agg #[.int .i64 k, .int .i64 n, .int .i64 i, .int .i64 c, .int .i64 j, .int .i64 d, .slice al ll cl, .slice ma mn mc]] w fun e w' => e = .returned (.bool true) ∧ DoP B bt bx ng w w' := by
  by_cases h0 : k = 0
  · subst h0; exact do_ins B w bt bx ng L hB h hng n i c j d al ll cl LL ma mn mc hi hc hr hll
  by_cases h1 : k = 1
  · subst h1; exact do_del B w bt bx ng L hB h hng n i c j d al ll cl ma mn mc hi hc hj hd
  by_cases h2 : k = 2
  · subst h2; exact do_sli B w bt bx ng L hB h hng n i c j d al ll cl ma mn mc hi hc hj hd
  exact do_rep B w bt bx ng L hB h hng k n i c j d al ll cl ma mn mc M h0 h1 h2 hi hn hm hms
end Go.Proofs.Ytndlebopfojjeaa.U

namespace Go.Proofs.Ytndlebopfojjeaa.U
open Go.RowKit
set_option linter.unusedVariables false
set_option linter.unusedSimpArgs false
set_option maxRecDepth 100000

/-- rows of the caller's own from the i0-th on, whatever lies in them, no two of them in one block -/
def MineG (B s : Nat) (w : World) (a : Option Addr) (n c : Nat) (ls : List Nat) (i0 : Nat) : Prop :=
  ∃ vs, w.ownsRow B 31 1 (.slice a n c) n vs ∧ vs.length = ls.length ∧ (∀ (i m : Nat), i0 ≤ i → ls[i]? = some m → ∃ v, vs[i]? = some v ∧ AnyRow B s w v m) ∧
    (∀ (i j : Nat) (vi vj : Value), i0 ≤ i → i < j → vs[i]? = some vi → vs[j]? = some vj → ∀ k, vi.ownBlock = some k → vj.ownBlock ≠ some k)
theorem FreshL.mineG {B n c : Nat} {w : World} {a : Option Addr} {L : List (List Int)} (h : FreshL B w a n c L) : MineG B w.heap.size w a n c (lens L) 0 := by
  have h' := h
  obtain ⟨vs, h1, h2, h3, h4⟩ := h'
  refine ⟨vs, h1, by rw [lens_len]; exact h2, fun i m _ hm => ?_, fun i j vi vj _ => h4 i j vi vj⟩
  unfold lens at hm
  rw [List.getElem?_map] at hm
  cases hx : L[i]? with
  | none => rw [hx] at hm; cases hm
  | some x =>
    rw [hx] at hm
    cases hm
    obtain ⟨v, e1, e2⟩ := h3 i x hx
    exact ⟨v, e1, _, e2, fun k e => (e2.lt k e).2⟩
section
variable {B s n c i0 : Nat} {w w' : World} {a : Option Addr} {ls : List Nat}
theorem MineG.below (h : MineG B s w a n c ls i0) (hb : Below w.heap.size w w') : MineG B s w' a n c ls i0 := by
  obtain ⟨vs, h1, h2, h3, h4⟩ := h
  exact ⟨vs, own_fr h1 (Fr.of_below (fun _ => False) hb) (fun _ _ h => h), h2, fun i m hi hm => by obtain ⟨v, e1, e2⟩ := h3 i m hi hm; exact ⟨v, e1, e2.below hb⟩, h4⟩
theorem MineG.set {g : Nat} {cur : Array Value} (h : MineG B s w a n c ls i0) (hg : w.heap[g]? = some (.cells cur 21 (0, 0))) (j : Nat) (u : Value) : MineG B s (w.setCell ⟨g, j, none⟩ u) a n c ls i0 := by
  obtain ⟨vs, h1, h2, h3, h4⟩ := h
  refine ⟨vs, own_fr h1 ((Fr.refl (fun k => k = g) _).setCell _ _ (fun _ => rfl)) (fun k e => row_block_apart h1 hg (by decide) e), h2, fun i m hi hm => ?_, h4⟩
  obtain ⟨v, e1, e2⟩ := h3 i m hi hm
  exact ⟨v, e1, e2.set g j u⟩
theorem MineG.get {i m : Nat} (h : MineG B s w a n c ls i0) (hi0 : i0 ≤ i) (hm : ls[i]? = some m) : ∃ g ra rc, a = some ⟨g, 0, none⟩ ∧ g < w.heap.size ∧ B ≤ g ∧ w.cell? ⟨g, i, none⟩ = some (.slice ra m rc) ∧ AnyRow B s w (.slice ra m rc) m := by
  obtain ⟨vs, h1, h2, h3, _⟩ := h
  obtain ⟨v, e1, e2⟩ := h3 i m hi0 hm
  have hi : i < vs.length := (List.getElem?_eq_some_iff.1 e1).1
  obtain ⟨ra, rc, rfl⟩ : ∃ ra rc, v = .slice ra m rc := by obtain ⟨_, e2, _⟩ := e2; exact own_slice e2
  rcases h1.2 with ⟨e, e0⟩ | ⟨g, cap, cur, e, hb, hg, hn, hc, hs, ht⟩
  · have := h1.1; omega
  · injection e with e3 e4 e5
    subst e3
    refine ⟨g, ra, rc, rfl, heap_lt hg, hb, ?_, e2⟩
    rw [cell_row hg, ← e1, ← ht, List.getElem?_take, if_pos (by have := h1.1; omega)]
    simp
/-- one rune more behind the i-th row -/
theorem MineG.app {i m : Nat} (h : MineG B s w a n c ls i) (hm : ls[i]? = some m) (hB : B ≤ w.heap.size) (hs : s ≤ w.heap.size) (hmb : m ≤ 1048576) (z : Int) :
    ∃ g ra rc a' c' w3, a = some ⟨g, 0, none⟩ ∧ g < w.heap.size ∧ w.cell? ⟨g, i, none⟩ = some (.slice ra m rc) ∧
      (∀ ty, (Builtin.append_ #[31, 31] ty #[.slice ra m rc, .slice (some ⟨w.heap.size, 0, none⟩) 1 1]).run Try.prog (w.alloc (.cells #[.int .i32 z] 21)) = .ok (.slice a' (m + 1) c') w3) ∧
      (∃ u, w3.cell? ⟨g, i, none⟩ = some u) ∧ w3.frozen? ⟨g, i, none⟩ = false ∧ g < w3.heap.size ∧
      MineG B s (w3.setCell ⟨g, i, none⟩ (.slice a' (m + 1) c')) a n c ls (i + 1) ∧ Below B w (w3.setCell ⟨g, i, none⟩ (.slice a' (m + 1) c')) := by
  obtain ⟨g, ra, rc, rfl, hgl, hgB, hcell, _⟩ := h.get (Nat.le_refl _) hm
  obtain ⟨vs, h1, h2, h3, h4⟩ := h
  obtain ⟨i0, hi0, hz0, hz1, hz2⟩ := info_parts infoI
  obtain ⟨v, e1, xs, e2, _⟩ := h3 i m (Nat.le_refl _) hm
  have hil : i < vs.length := (List.getElem?_eq_some_iff.1 e1).1
  rcases h1.2 with ⟨ev, e0⟩ | ⟨g', cap, cur, ev, hgB', hgw, hnc, hcm, hcs, htk⟩
  · injection ev with ev1; cases ev1
  injection ev with ev1 ev2 ev3
  injection ev1 with ev1
  injection ev1 with ev1
  subst ev1 ev3
  have hv : v = .slice ra m rc := by
    have h9 : w.cell? ⟨g, i, none⟩ = some v := by
      rw [cell_row hgw, ← e1, ← htk, List.getElem?_take, if_pos (by have := h1.1; omega)]
      simp
    rw [hcell] at h9
    cases h9
    rfl
  subst hv
  obtain ⟨w2, hw2⟩ : ∃ w2, w.alloc (.cells #[.int .i32 z] 21) = w2 := ⟨_, rfl⟩
  have hb2 : Below w.heap.size w w2 := by rw [← hw2]; exact (Below.refl _ _).alloc (Nat.le_refl _) _
  have hg2 : w2.heap[w.heap.size]? = some (.cells #[.int .i32 z] 21 (0, 0)) := by rw [← hw2]; exact heap_alloc_new w _
  have hsz2 : w2.heap.size = w.heap.size + 1 := by rw [← hw2]; simp
  have f02 : Fr (fun _ => False) w w2 := Fr.of_below (fun _ => False) hb2
  have e22 := own_fr e2 f02 (fun _ _ h => h)
  have h12 := own_fr h1 f02 (fun _ _ h => h)
  obtain ⟨v', w3, hrun, hown, hfr, hnear⟩ := run_append_own_k (P := Try.prog) w2 B 31 21 i0 _ 1 4 Try.underlying31 hi0 hz0 hz1 hz2 rfl (by decide) (.slice ra m rc) m xs e22 (some ⟨w.heap.size, 0, none⟩) 1 1 [.int .i32 z] rfl
    (fun _ => ⟨_, rfl, fun j u hu => by rw [add_lit, cell_row hg2, Nat.zero_add]; simpa using hu⟩) (by intro u hu; simp only [List.mem_singleton] at hu; subst hu; rfl) (by unfold maxLen; omega) (by omega) (by omega)
  obtain ⟨a', c', rfl⟩ := own_slice hown
  have h13 := own_fr h12 hfr (fun k e hk => rows_apart h12 e22 (by decide) e hk)
  rcases h13.2 with ⟨ev', e0⟩ | ⟨g', cap', cur', ev', hgB', hgw3, hnc', hcm', hcs', htk'⟩
  · injection ev' with ev1; cases ev1
  injection ev' with ev1 ev2 ev3
  injection ev1 with ev1
  injection ev1 with ev1
  subst ev1 ev3
  have hvl : vs.length = n := by have := h1.1; omega
  refine ⟨g, ra, rc, a', c', w3, rfl, hgl, hcell, by rw [hw2]; exact hrun, ⟨_, (cell_row hgw3 i).trans (Array.getElem?_eq_getElem (by omega))⟩, frozen_row hgw3 i, heap_lt hgw3, ?_, ?_⟩
  · have fset : Fr (fun x => x = g) w3 (w3.setCell ⟨g, i, none⟩ (.slice a' (m + 1) c')) := (Fr.refl _ _).setCell _ _ (fun _ => rfl)
    refine ⟨vs.set i (.slice a' (m + 1) c'), ⟨by simp; omega, .inr ⟨g, c, _, rfl, hgB, heap_set hgw3 i _, hnc, hcm, by simpa using hcs', ?_⟩⟩, by simp [h2], ?_, ?_⟩
    · rw [Array.toList_setIfInBounds, List.take_set, htk']
    · intro j q hj hq
      obtain ⟨u, f1, ys, f2, f3⟩ := h3 j q (by omega) hq
      refine ⟨u, by rw [List.getElem?_set_ne (by omega)]; exact f1, ys, ?_, f3⟩
      have f4 := own_fr (own_fr f2 f02 (fun _ _ h => h)) hfr (fun b e hb => h4 i j _ _ (Nat.le_refl _) (by omega) e1 f1 b hb.symm e)
      exact own_fr f4 fset (fun b e => row_block_apart f4 hgw3 (by decide) e)
    · intro j j' vj vj' hj hjj f1 f2
      rw [List.getElem?_set_ne (by omega)] at f1 f2
      exact h4 j j' vj vj' (by omega) hjj f1 f2
  · exact ((hb2.mono hB).trans (hfr.below (by omega) (fun x e => (e22.lt x e.symm).1))).setCell hgB _
end

set_option maxHeartbeats 8000000 in
theorem same_any (B : Nat) (w : World) (bt bx ng : Nat) (L : List (List Int)) (h : Duo B noQ w bt bx ng L L) (hng : ng ≤ lim) :
    Calls Try.prog 13 #[.pointer (some ⟨bt, 0, none⟩), .pointer (some ⟨bx, 0, none⟩)] w fun e w' => e = .returned (.bool true) ∧ Below w.heap.size w w' := by
  obtain ⟨P, G, hT, hX, _⟩ := h
  obtain ⟨ra, nr, rc, hrl, hcx⟩ := hX.cell
  have hsz := hT.size
  have hcnt := hT.count
  have HWF := Lib.hid hT.wf
  have hnr := hrl.len
  obtain ⟨N, hN⟩ : ∃ N, L.length = N := ⟨_, rfl⟩
  rw [hN] at hnr hcnt
  subst hnr
  have hA := all_any P bt ng L w hT hng
  rw [hN] at hA
  have HA := Lib.hid hA
  have HT := Lib.hid hT
  have HRL := Lib.hid hrl
  have HC := Lib.hid hcx
  have HN := Lib.hid hN
  have HSZ := Lib.hid hsz
  obtain ⟨B0, hB0⟩ : ∃ B0, w.heap.size = B0 := ⟨_, rfl⟩
  have HBE := Lib.hid hB0
  rw [hB0]
  clear hT hX hrl hcx hN hA hB0
  go_enter Try.func13, Try.ntmps13
  go_wp2_with fail
  refine HA.out.mono ?_
  rintro e w1 ⟨a5, c5, rfl, hf, hb1⟩
  rw [HBE.out] at hf
  have HB1 : Hid (Below w.heap.size w w1) := hb1
  have HR1 := Lib.hid (hf.rdl (lines_wf HWF.out))
  have HM1 := Lib.hid hf.mineG
  have HBB : Hid (Below B0 w w1 ∧ B0 ≤ w1.heap.size) := ⟨by rw [← HBE.out]; exact hb1, by have := hb1.size; have := HBE.out; omega⟩
  have HT1 := Lib.hid (HT.out.below hb1)
  have HL1 := Lib.hid (HRL.out.below hb1)
  obtain ⟨R, hR⟩ : ∃ R, (joinL L).length = R := ⟨_, rfl⟩
  have HSA : Hid (∀ W, Below w1.heap.size w1 W → Calls Try.prog 29 #[.slice a5 N c5, .slice ra N rc] W fun e w' => e = .returned (.bool true) ∧ w'.cell? ⟨bx, 0, none⟩ = some (.slice ra N rc) ∧ bx < w'.heap.size ∧ Hid (Below w1.heap.size w1 w')) := by
    intro W hW
    have := rsame_any _ _ a5 ra N N c5 rc L L W (HR1.out.below hW) (HL1.out.below hW)
    rw [decide_eq_true (rfl : L = L)] at this
    refine this.mono ?_
    rintro e w' ⟨rfl, hb⟩
    have hbb := hW.trans (hb.mono hW.size)
    obtain ⟨z1, z2⟩ := HC.out w' (HB1.out.trans (hbb.mono HB1.out.size))
    exact ⟨rfl, z1, z2, hbb⟩
  have HCN : Hid (∀ W, Hid (Below w1.heap.size w1 W) → Calls Try.prog 24 #[.pointer (some ⟨bt, 0, none⟩)] W fun e w' => e = .returned (.int .i64 (N : Nat)) ∧ W = w') := by
    intro W hW
    have := count_any P bt ng L W (HT1.out.below hW.out)
    rw [HN.out] at this
    exact this
  have HRT : Hid (∀ W, Hid (Below w1.heap.size w1 W) → Calls Try.prog 23 #[.pointer (some ⟨bt, 0, none⟩)] W fun e w' => e = .returned (.int .i64 (R : Nat)) ∧ W = w') := by
    intro W hW
    have := runesT_any P bt ng L W (HT1.out.below hW.out)
    rw [hR] at this
    exact this
  have HRX : Hid (∀ W, Hid (Below w1.heap.size w1 W) → Calls Try.prog 31 #[.slice ra N rc] W fun e w' => e = .returned (.int .i64 (R : Nat)) ∧ W = w') := by
    intro W hW
    have := rrunes_any _ ra N rc L W (HL1.out.below hW.out) (by have := HSZ.out; omega)
    rw [hR] at this
    exact this
  obtain ⟨x0, l0⟩ := HC.out w1 HB1.out
  obtain ⟨s1, hs1⟩ : ∃ s1, w1.heap.size = s1 := ⟨_, rfl⟩
  have HS1 := Lib.hid hs1
  have e1 : ((N : Int) != (N : Int)) = false := by simp
  have e2 : ((R : Int) != (R : Int)) = false := by simp
  clear hf hb1 HA hR hs1
  go_upto_region 2 with fail
  go_cut [36] (fun v wx => v = .bool false ∧ Hid (Below w1.heap.size w1 wx))
  case first =>
    go_region_held3 (fun w' => w'.cell? ⟨bx, 0, none⟩ = some (.slice ra N rc))
      (first | exact x0 | exact k0)
      (first
        | (go_at_call 29; refine (HSA.out _ (by first | exact Below.refl _ _ | exact (Below.refl _ _).drew)).mono ?_; rintro e w2 ⟨rfl, k0, kl, hbb⟩)
        | (go_at_call 24; refine (HCN.out _ hbb).mono ?_; rintro e w' ⟨rfl, rfl⟩)
        | (go_at_call 23; refine (HRT.out _ hbb).mono ?_; rintro e w' ⟨rfl, rfl⟩)
        | (go_at_call 31; refine (HRX.out _ hbb).mono ?_; rintro e w' ⟨rfl, rfl⟩))
    all_goals
      go_wp2_with fail
      go_meet
      exact ⟨rfl, hbb⟩
  case rest =>
  obtain ⟨rfl, hcb⟩ := hcut
  have HST : Hid (MineG B0 s1 wc a5 N c5 (lens L) 0 ∧ Below B0 w wc ∧ s1 ≤ wc.heap.size) := by
    have h1 := HM1.out.below hcb.out
    rw [HS1.out] at h1
    exact ⟨h1, HBB.out.1.trans (hcb.out.mono HBB.out.2), by have := hcb.out.size; have := HS1.out; omega⟩
  have HBS : Hid (B0 ≤ s1) := by show _ ≤ _; have := HBB.out.2; have := HS1.out; omega
  clear hcb HSA HCN HRT HRX HM1 HR1 HT1 HL1 HBB e1 e2 x0 l0
  go_wp2_with fail
  go_loopw [6, 7] (fun v6 v7 wr => ∃ i : Nat, v6 = .int .i64 i ∧ i ≤ N ∧ Hid (MineG B0 s1 wr a5 N c5 (lens L) i ∧ Below B0 w wr ∧ s1 ≤ wr.heap.size)) (fun v6 _ _ => N - (intOf v6).toNat)
  case atStart => exact ⟨0, rfl, Nat.zero_le _, HST⟩
  case round =>
    obtain ⟨i, rfl, hi, hst⟩ := hrel
    clear HST
    by_cases hlt : i < N
    · obtain ⟨m, hm⟩ : ∃ m, (lens L)[i]? = some m := ⟨_, List.getElem?_eq_getElem (by rw [lens_len, HN.out]; exact hlt)⟩
      have HMI := Lib.hid hm
      have hmb : m ≤ 1048576 := by
        obtain ⟨h1, h2⟩ := List.getElem?_eq_some_iff.1 hm
        have := sizeN_mem (List.getElem_mem h1)
        have := HSZ.out
        omega
      obtain ⟨wq, hwq⟩ : ∃ x, x = wr := ⟨_, rfl⟩
      subst hwq
      clear hm
      go_wp2_with fail
      go_loopw [7] (fun v7 wr => ∃ k : Nat, v7 = .int .i64 k ∧ k ≤ m ∧ Hid (MineG B0 s1 wr a5 N c5 (lens L) i ∧ Below B0 w wr ∧ s1 ≤ wr.heap.size)) (fun v7 _ => m - (intOf v7).toNat)
      case atStart => exact ⟨0, rfl, Nat.zero_le _, hst⟩
      case round =>
        obtain ⟨k, rfl, hk, hin⟩ := hrel
        clear hst
        by_cases hlt2 : k < m
        · obtain ⟨g, ra', rc', rfl, hgl, hgB, hcell, hrow⟩ := hin.out.1.get (Nat.le_refl _) HMI.out
          obtain ⟨g2, cur, rfl, h2B, h2s, h2g, ⟨u, h2c⟩, h2f, h2l⟩ := hrow.get hlt2
          have HNX : Hid (MineG B0 s1 (wr.setCell ⟨g2, k, none⟩ (.int .i32 7)) (some ⟨g, 0, none⟩) N c5 (lens L) i ∧ Below B0 w (wr.setCell ⟨g2, k, none⟩ (.int .i32 7)) ∧ s1 ≤ (wr.setCell ⟨g2, k, none⟩ (.int .i32 7)).heap.size) :=
            ⟨hin.out.1.set h2g k _, hin.out.2.1.setCell h2B _, by have := hin.out.2.2; simpa using this⟩
          clear hin hrow h2g
          go_wp2_with fail
          go_roundw
          case rel => exact ⟨k + 1, by go_num, by omega, HNX⟩
          case measure => simp [intOf]; omega
        · obtain rfl : k = m := by omega
          obtain ⟨g, ra', rc', a', c', w3, rfl, hgl, hcell, hrun, ⟨u, hu⟩, hfz, hgl3, hm3, hb3⟩ := hin.out.1.app HMI.out (Nat.le_trans HBS.out hin.out.2.2) hin.out.2.2 hmb 8
          have HRUN := Lib.hid hrun
          have HNX : Hid (MineG B0 s1 (w3.setCell ⟨g, i, none⟩ (.slice a' (k + 1) c')) (some ⟨g, 0, none⟩) N c5 (lens L) (i + 1) ∧ Below B0 w (w3.setCell ⟨g, i, none⟩ (.slice a' (k + 1) c')) ∧ s1 ≤ (w3.setCell ⟨g, i, none⟩ (.slice a' (k + 1) c')).heap.size) :=
            ⟨hm3, hin.out.2.1.trans hb3, Nat.le_trans hin.out.2.2 hb3.size⟩
          clear hin hrun hm3 hb3
          go_wp2_with (at_builtin; go_must (with_reducible refine Lib.wpList_append_run _ rfl (.tmp 63) (.tmp 64) _ _ rfl _ _ rfl rfl _ _ (HRUN.out _) ?_))
          go_roundw
          case rel => exact ⟨i + 1, by go_num, by omega, HNX⟩
          case measure => simp [intOf]; omega
    · obtain rfl : i = N := by omega
      go_wp2_with fail
      go_ret
      exact ⟨rfl, hst.out.2.1⟩
end Go.Proofs.Ytndlebopfojjeaa.U
