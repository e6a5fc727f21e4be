/-
  The program's reader: an alternative.
-/
import Derived.Test.YtkjiobbkbhmijaaRAtom
import Derived.Test.YtkjiobbkbhmijaaRRep
import Derived.Test.YtkjiobbkbhmijaaRAddB
import Derived.Test.YtkjiobbkbhmijaaRJoin
namespace Go.Proofs.Ytkjiobbkbhmijaa.U
open Go.RowKit
set_option linter.unusedVariables false
set_option linter.unusedSimpArgs false
set_option maxRecDepth 100000

/-- the list at hand beside the reader -/
def Gt (w1 wr : World) (br q : Nat) (p l : List Int) (n o : Nat) (acc : List Re) : Prop := LsAt wr q acc ∧ RdS wr br p l n o ∧ Fr (fun k => k = br ∨ q ≤ k) w1 wr
theorem Gt.below {w1 wr W : World} {br q : Nat} {p l : List Int} {n o : Nat} {acc : List Re} (h : Gt w1 wr br q p l n o acc) (hb : Below wr.heap.size wr W) : Gt w1 W br q p l n o acc := ⟨h.1.below hb, h.2.1.below hb, h.2.2.trans (Fr.of_below (fun _ => False) hb) (fun _ _ h => h.elim)⟩
/-- a part more -/
theorem Gt.add {w1 w2 w3 : World} {br q : Nat} {p l l3 : List Int} {n n3 o : Nat} {acc : List Re} (h : Gt w1 w2 br q p l n o acc) (hbr : br < q) {x : Re} {v : List Value} (hx : PtAt (New w2 w3) w3 v x) (hr : RdS w3 br p l3 n3 o) (hf : Fr (· = br) w2 w3) :
    Calls Try.prog 31 #[.pointer (some ⟨q, 0, none⟩), ptV v x] w3 fun e w' => e = .returned (.tuple #[]) ∧ Hid (Gt w1 w' br q p l3 n3 o (acc ++ [x])) := by
  refine (add_any q acc x v w2 w3 (· = br) h.1 hf (fun k e => by omega) hx).mono ?_
  rintro e w' ⟨rfl, h1, h2⟩
  exact ⟨rfl, h1, hr.fr h2 (fun k hk => by omega), (h.2.2.trans hf (fun _ _ h => Or.inl h)).trans h2 (fun _ _ h => Or.inr h)⟩
/-- what is made of them, in the result's block ahead of the list's -/
theorem Gt.join {w w1 wr : World} {br : Nat} {p l : List Int} {n o : Nat} {acc : List Re} (h : Gt w1 wr br (w.heap.size + 1) p l n o acc) (hb1 : Below w.heap.size w w1) (hbr : br < w.heap.size) (hg1 : w1.heap[w.heap.size]? = some (.cells #[.int .i64 0, .int .i32 0, .slice none 0 0, .bool false, .int .i64 0, .int .i64 0, .slice none 0 0, .int .i64 0] 55 (0, 0))) (y : Re) (e : Ending) (w8 : World) (hj : Jn wr (w.heap.size + 1) y e w8) :
    ∃ k8 r8 sa8 sn8 sc8 nt8 l8 h8 pa8 pn8 pc8, e = .returned (.agg #[.int .i64 k8, .int .i32 r8, .slice sa8 sn8 sc8, .bool nt8, .int .i64 l8, .int .i64 h8, .slice pa8 pn8 pc8, .int .i64 ((min y.sz 401 : Nat) : Int)]) ∧ w8.heap[w.heap.size]? = some (.cells #[.int .i64 0, .int .i32 0, .slice none 0 0, .bool false, .int .i64 0, .int .i64 0, .slice none 0 0, .int .i64 0] 55 (0, 0)) ∧
      Hid (∀ W : World, Fr (fun j => j = w.heap.size) w8 W → PtAt (New w W) W [.int .i64 k8, .int .i32 r8, .slice sa8 sn8 sc8, .bool nt8, .int .i64 l8, .int .i64 h8, .slice pa8 pn8 pc8] y ∧ RdS W br p l n o ∧ Fr (· = br) w W) := by
  obtain ⟨v, rfl, hp, hb⟩ := hj
  obtain ⟨k8, r8, sa8, sn8, sc8, nt8, l8, h8, pa8, pn8, pc8, rfl⟩ := hp.rev7
  have hs1 := heap_lt hg1
  have hs2 := h.2.2.size
  have hs3 := hb.size
  refine ⟨k8, r8, sa8, sn8, sc8, nt8, l8, h8, pa8, pn8, pc8, rfl, by rw [hb.block _ (by omega), h.2.2.block _ hs1 (fun e => by omega)]; exact hg1, fun W hW => ?_⟩
  refine PaAns.put (w2 := w8) (by omega) ?_ (hp.mono (fun k hk => ⟨by have := hk.1; omega, hk.2⟩)) (h.2.1.below hb) hbr hW
  exact ((Fr.of_below (fun k => k = br ∨ w.heap.size ≤ k) hb1).trans h.2.2 (fun k _ h => h.elim Or.inl (fun h => Or.inr (by omega)))).trans (Fr.of_below (fun _ => False) hb) (fun _ _ h => h.elim)
theorem Gt.up {w w1 wr W : World} {br : Nat} {p l : List Int} {n o : Nat} {acc : List Re} (h : Gt w1 wr br (w.heap.size + 1) p l n o acc) (hb1 : Below w.heap.size w w1) (hf : Fr (· = br) wr W) : Fr (· = br) w W :=
  fr_up (((Fr.of_below (fun k => k = br ∨ w.heap.size ≤ k) hb1).trans h.2.2 (fun k _ h => h.elim Or.inl (fun h => Or.inr (by omega)))).trans hf (fun _ _ h => Or.inl h))
theorem pcsR_succ (rec : Rec) (o f : Nat) (acc : List Re) (l : List Int) (n : Nat) (x : Re) (l1 : List Int) (n1 : Nat) (y : Re) (l2 : List Int) (he : ended l = false) (h1 : atomR rec l n o = .ok (x, l1, n1)) (h2 : reps (l1.length + 1) x l1 = .ok (y, l2)) : pcsR rec o (f + 1) acc l n = pcsR rec o f (acc ++ [y]) l2 n1 := by
  rw [pcsR, he]; simp only [h1, h2]; rfl
def altF (k : Int) (r : Rs (List Re × List Int × Nat)) : Rs (Re × List Int × Nat) :=
  match r with
  | .error e => .error e
  | .ok (xs, l', n') => .ok (joinR k xs, l', n')
theorem altR_eq (rec : Rec) (l : List Int) (n o : Nat) : altR rec l n o = altF 8 (pcs0 rec l n o) := rfl
theorem altsR_eq (rec : Rec) (l : List Int) (n o : Nat) : altsR rec l n o = altF 9 (alts0 rec l n o) := rfl

set_option maxHeartbeats 4000000 in
theorem alt_any (rec : Rec) (br : Nat) (p l : List Int) (n o : Nat) (w : World) (hrs : RecS rec) (hrec : o < 16 → AltsC rec (o + 1)) (h : RdS w br p l n o) :
    Calls Try.prog 32 #[.pointer (some ⟨br, 0, none⟩)] w (PaAns w br p o (altR rec l n o)) := by
  have hlt := h.lt
  obtain ⟨w1, hw1⟩ : ∃ w1, (w.alloc (.cells #[.int .i64 0, .int .i32 0, .slice none 0 0, .bool false, .int .i64 0, .int .i64 0, .slice none 0 0, .int .i64 0] 55)).alloc (.cells #[.slice none 0 0, .int .i64 0] 61) = w1 := ⟨_, rfl⟩
  have hb1 : Below w.heap.size w w1 := by rw [← hw1]; exact ((Below.refl _ w).alloc (Nat.le_refl _) _).alloc (by simp) _
  have hg1 : w1.heap[w.heap.size]? = some (.cells #[.int .i64 0, .int .i32 0, .slice none 0 0, .bool false, .int .i64 0, .int .i64 0, .slice none 0 0, .int .i64 0] 55 (0, 0)) := by
    rw [← hw1, ((Below.refl _ (w.alloc _)).alloc (Nat.le_refl _) _).block _ (by simp)]
    exact heap_alloc_new w _
  have hgq : w1.heap[w.heap.size + 1]? = some (.cells #[.slice none 0 0, .int .i64 0] 61 (0, 0)) := by
    rw [← hw1]
    have := heap_alloc_new (w.alloc (.cells #[.int .i64 0, .int .i32 0, .slice none 0 0, .bool false, .int .i64 0, .int .i64 0, .slice none 0 0, .int .i64 0] 55)) (.cells #[.slice none 0 0, .int .i64 0] 61)
    rw [show (w.alloc (.cells #[.int .i64 0, .int .i32 0, .slice none 0 0, .bool false, .int .i64 0, .int .i64 0, .slice none 0 0, .int .i64 0] 55)).heap.size = w.heap.size + 1 by simp] at this
    exact this
  have HGT1 : Hid (Gt w1 w1 br (w.heap.size + 1) p l n o []) := ⟨LsAt.new w1 _ hgq, h.below hb1, Fr.refl _ _⟩
  have HG1 := Lib.hid hg1
  have HB1 := Lib.hid hb1
  have HW1 := Lib.hid hw1
  have HRS := Lib.hid hrs
  have HREC := Lib.hid hrec
  have HJ : Hid (∀ {l1 : List Int} {n1 : Nat} {acc : List Re} {y : Re} (wr : World) (e : Ending) (w8 : World), Hid (Gt w1 wr br (w.heap.size + 1) p l1 n1 o acc) → Jn wr (w.heap.size + 1) y e w8 → ∃ k8 r8 sa8 sn8 sc8 nt8 l8 h8 pa8 pn8 pc8, e = .returned (.agg #[.int .i64 k8, .int .i32 r8, .slice sa8 sn8 sc8, .bool nt8, .int .i64 l8, .int .i64 h8, .slice pa8 pn8 pc8, .int .i64 ((min y.sz 401 : Nat) : Int)]) ∧ w8.heap[w.heap.size]? = some (.cells #[.int .i64 0, .int .i32 0, .slice none 0 0, .bool false, .int .i64 0, .int .i64 0, .slice none 0 0, .int .i64 0] 55 (0, 0)) ∧
      Hid (∀ W : World, Fr (fun j => j = w.heap.size) w8 W → PtAt (New w W) W [.int .i64 k8, .int .i32 r8, .slice sa8 sn8 sc8, .bool nt8, .int .i64 l8, .int .i64 h8, .slice pa8 pn8 pc8] y ∧ RdS W br p l1 n1 o ∧ Fr (· = br) w W)) := fun wr e w8 hG hj => hG.out.join HB1.out hlt HG1.out _ e w8 hj
  clear hw1 hb1 hg1 hgq hrs hrec
  rw [altR_eq]
  obtain ⟨r0, hr0⟩ : ∃ r0, pcs0 rec l n o = r0 := ⟨_, rfl⟩
  rw [hr0]
  unfold pcs0 at hr0
  cases hp : pre [94] l with
  | true =>
    rw [if_pos hp] at hr0
    have HP := Lib.hid hp
    have HR0 := Lib.hid hr0
    have HF0 : Hid ((l.drop 1).length < l.length + 1) := by show _ < _; simp; omega
    have HAD : Hid (∀ (w2 w3 : World), Hid (Gt w1 w2 br (w.heap.size + 1) p (l.drop 1) n o []) → Below w2.heap.size w2 w3 → Calls Try.prog 31 #[.pointer (some ⟨w.heap.size + 1, 0, none⟩), .agg #[.int .i64 4, .int .i32 0, .slice none 0 0, .bool false, .int .i64 0, .int .i64 0, .slice none 0 0, .int .i64 1]] w3 fun e w' => e = .returned (.tuple #[]) ∧ Hid (Gt w1 w' br (w.heap.size + 1) p (l.drop 1) n o [Re.one 4])) := by
      intro w2 w3 h2 hb
      have := h2.out.add (x := Re.one 4) (v := [.int .i64 4, .int .i32 0, .slice none 0 0, .bool false, .int .i64 0, .int .i64 0, .slice none 0 0]) (by omega) (PtAt.leaf _ w3 4 0 (by decide)) (h2.out.2.1.below hb) (Fr.of_below _ hb)
      unfold Re.one at this ⊢
      rw [ptV_leaf 4 0 (by decide)] at this
      exact this
    have HTK : Hid (Calls Try.prog 33 #[.pointer (some ⟨br, 0, none⟩), .slice (some ⟨w1.heap.size, 0, none⟩) 1 1] (w1.alloc (.cells #[.int .i32 94] 21)) fun e w' => e = .returned (.bool true) ∧ Hid (Gt w1 w' br (w.heap.size + 1) p (l.drop 1) n o [])) := by
      refine (took1_yes HGT1.out.2.1 94 HP.out (by decide)).mono ?_
      rintro e w' ⟨rfl, h2⟩
      exact ⟨rfl, HGT1.out.1.fr h2.out.2 (fun k e => by omega), h2.out.1, h2.out.2.mono (fun _ _ h => Or.inl h)⟩
    clear hp hr0 h
    go_enter Try.func32, Try.ntmps32
    go_upto_region 2 with fail
    rw [HW1.out]
    go_upto_region 4 with (first
      | (go_at_call 33; refine HTK.out.mono ?_; rintro e wt ⟨rfl, HT⟩)
      | (go_at_call 41; refine (simple_any 4 0 none 0 0 false 0 0 none 0 0 wt).mono ?_; rintro e ws ⟨rfl, hbs⟩)
      | (go_at_call 31; refine (HAD.out wt ws HT hbs).mono ?_; rintro e we ⟨rfl, HE⟩))
    go_loopw [] (fun wr => ∃ (acc : List Re) (l1 : List Int) (n1 f : Nat), Hid (Gt w1 wr br (w.heap.size + 1) p l1 n1 o acc ∧ l1.length < f ∧ pcsR rec o f acc l1 n1 = r0)) (fun wr => p.length - atN wr br)
    case atStart => exact ⟨_, _, _, _, HE.out, by have := HF0.out; omega, HR0.out⟩
    case round =>
      obtain ⟨acc, l1, n1, f, HR⟩ := hrel
      clear HE HR0 HF0 HGT1
      obtain ⟨g, hg⟩ : ∃ g, f = g + 1 := ⟨f - 1, by have := HR.out.2.1; omega⟩
      subst hg
      cases hen : ended l1 with
      | true =>
        have HREQ : Hid (altF 8 r0 = .ok (joinR 8 acc, l1, n1)) := by
          have := HR.out.2.2
          rw [pcsR, if_pos hen] at this
          rw [← this]; rfl
        have HEN := Lib.hid hen
        clear hen
        go_wp2_with (first
          | (go_at_call 42; refine (ended_any br p l1 n1 o _ HR.out.1.2.1).mono ?_; rw [HEN.out]; rintro e w2 ⟨rfl, hbe⟩; have HG2 := Lib.hid (HR.out.1.below hbe); clear hbe)
          | (go_at_call 34; refine (joined_any (w.heap.size + 1) 8 (by decide) acc _ HG2.out.1).mono ?_; intro e w8 hh; obtain ⟨k8, r8, sa8, sn8, sc8, nt8, l8, h8, pa8, pn8, pc8, he, hg8, HFIN⟩ := HJ.out _ e w8 HG2 hh; subst he; clear hh; obtain ⟨b0, b1, b2, b3, b4, b5, b6, b7, z0, z1, z2, z3, z4, z5, z6, z7⟩ := row8 hg8; have HG8 := Lib.hid hg8; clear hg8))
        have hput := put8 HG8.out (.int .i64 k8) (.int .i32 r8) (.slice sa8 sn8 sc8) (.bool nt8) (.int .i64 l8) (.int .i64 h8) (.slice pa8 pn8 pc8) (.int .i64 ((min (joinR 8 acc).sz 401 : Nat) : Int))
        have HEND := Lib.hid (HFIN.out _ hput.2)
        clear hput
        refine bodyPost_ret (v := .agg #[.int .i64 k8, .int .i32 r8, .slice sa8 sn8 sc8, .bool nt8, .int .i64 l8, .int .i64 h8, .slice pa8 pn8 pc8, .int .i64 ((min (joinR 8 acc).sz 401 : Nat) : Int)]) ?_ rfl ?_
        · rw [results_cell1 rfl]
          go_simp
        · show PaAns w br p o (altF 8 r0) _ _
          rw [HREQ.out]
          exact PaAns.ok (v := [.int .i64 k8, .int .i32 r8, .slice sa8 sn8 sc8, .bool nt8, .int .i64 l8, .int .i64 h8, .slice pa8 pn8 pc8]) rfl HEND.out
      | false =>
        have HEN := Lib.hid hen
        match l1, hen, HR, HEN with
        | [], hen, HR, HEN => simp [ended] at hen
        | c :: l2, hen, HR, HEN =>
          have HAT : Hid (∀ w2 : World, Hid (Gt w1 w2 br (w.heap.size + 1) p (c :: l2) n1 o acc) → Calls Try.prog 44 #[.pointer (some ⟨br, 0, none⟩)] w2 (PaAns w2 br p o (atomR rec (c :: l2) n1 o))) := fun w2 h2 => atom_any rec br p l2 c n1 o w2 HREC.out h2.out.2.1
          cases ha : atomR rec (c :: l2) n1 o with
          | error ec =>
            have HREQ : Hid (altF 8 r0 = .error ec) := by
              have := HR.out.2.2
              rw [pcsR, hen] at this
              simp only [ha] at this
              rw [← this]; rfl
            rw [ha] at HAT
            clear ha hen
            go_wp2_with (first
              | (go_at_call 42; refine (ended_any br p (c :: l2) n1 o _ HR.out.1.2.1).mono ?_; rw [HEN.out]; rintro e w2 ⟨rfl, hbe⟩; have HG2 := Lib.hid (HR.out.1.below hbe); clear hbe)
              | (go_at_call 44; refine (HAT.out w2 HG2).mono ?_; intro e w4 h4; obtain ⟨he, hf4⟩ := h4; rw [errV] at he; subst he; have HF4 := Lib.hid hf4; clear hf4))
            refine ⟨rfl, ?_⟩
            show PaAns w br p o (altF 8 r0) _ _
            rw [HREQ.out]
            exact ⟨rfl, HG2.out.up HB1.out HF4.out⟩
          | ok qa =>
            obtain ⟨x, l3, n3⟩ := qa
            rw [ha] at HAT
            have hsx := atomR_suffix HRS.out ha
            have HOPA : Hid (∀ (w2 w4 : World) (e : Ending), PaAns w2 br p o (.ok (x, l3, n3)) e w4 → ∃ k4 r4 sa4 sn4 sc4 nt4 l4 h4 pa4 pn4 pc4, e = .returned (.agg #[.int .i64 k4, .int .i32 r4, .slice sa4 sn4 sc4, .bool nt4, .int .i64 l4, .int .i64 h4, .slice pa4 pn4 pc4, .int .i64 ((min x.sz 401 : Nat) : Int)]) ∧ Hid (PtAt (New w2 w4) w4 [.int .i64 k4, .int .i32 r4, .slice sa4 sn4 sc4, .bool nt4, .int .i64 l4, .int .i64 h4, .slice pa4 pn4 pc4] x ∧ RdS w4 br p l3 n3 o ∧ Fr (· = br) w2 w4)) := by
              rintro w2 w4 e ⟨v, rfl, h1, h2, h3⟩
              obtain ⟨k4, r4, sa4, sn4, sc4, nt4, l4, h4, pa4, pn4, pc4, rfl⟩ := h1.rev7
              exact ⟨k4, r4, sa4, sn4, sc4, nt4, l4, h4, pa4, pn4, pc4, rfl, h1, h2, h3⟩
            have HRP : Hid (∀ (w2 w4 : World) (k4 r4 : Int) (sa4 : Option Addr) (sn4 sc4 : Nat) (nt4 : Bool) (l4 h4 : Int) (pa4 : Option Addr) (pn4 pc4 : Nat), Hid (Gt w1 w2 br (w.heap.size + 1) p (c :: l2) n1 o acc) → Hid (PtAt (New w2 w4) w4 [.int .i64 k4, .int .i32 r4, .slice sa4 sn4 sc4, .bool nt4, .int .i64 l4, .int .i64 h4, .slice pa4 pn4 pc4] x ∧ RdS w4 br p l3 n3 o ∧ Fr (· = br) w2 w4) →
                Calls Try.prog 43 #[.pointer (some ⟨br, 0, none⟩), .agg #[.int .i64 k4, .int .i32 r4, .slice sa4 sn4 sc4, .bool nt4, .int .i64 l4, .int .i64 h4, .slice pa4 pn4 pc4, .int .i64 ((min x.sz 401 : Nat) : Int)]] w4 (RpAns (New w2 w4) w4 br p n3 o (reps (l3.length + 1) x l3))) := by
              intro w2 w4 k4 r4 sa4 sn4 sc4 nt4 l4 h4 pa4 pn4 pc4 h2 h
              have := repeated_any (New w2 w4) br p l3 n3 o x [.int .i64 k4, .int .i32 r4, .slice sa4 sn4 sc4, .bool nt4, .int .i64 l4, .int .i64 h4, .slice pa4 pn4 pc4] w4 h.out.2.1 h.out.1 (fun k hk => ⟨hk.2, by have := hk.1; have := h2.out.2.1.lt; omega⟩)
              rw [show ptV [.int .i64 k4, .int .i32 r4, .slice sa4 sn4 sc4, .bool nt4, .int .i64 l4, .int .i64 h4, .slice pa4 pn4 pc4] x = .agg #[.int .i64 k4, .int .i32 r4, .slice sa4 sn4 sc4, .bool nt4, .int .i64 l4, .int .i64 h4, .slice pa4 pn4 pc4, .int .i64 ((min x.sz 401 : Nat) : Int)] from rfl] at this
              exact this
            cases hrp : reps (l3.length + 1) x l3 with
            | error ec =>
              have HREQ : Hid (altF 8 r0 = .error ec) := by
                have := HR.out.2.2
                rw [pcsR, hen] at this
                simp only [ha, hrp] at this
                rw [← this]; rfl
              rw [hrp] at HRP
              clear ha hen hrp hsx
              go_wp2_with (first
                | (go_at_call 42; refine (ended_any br p (c :: l2) n1 o _ HR.out.1.2.1).mono ?_; rw [HEN.out]; rintro e w2 ⟨rfl, hbe⟩; have HG2 := Lib.hid (HR.out.1.below hbe); clear hbe)
                | (go_at_call 44; refine (HAT.out w2 HG2).mono ?_; intro e w4 hh; obtain ⟨k4, r4, sa4, sn4, sc4, nt4, l4, h4, pa4, pn4, pc4, he, H4⟩ := HOPA.out w2 w4 e hh; subst he; clear hh)
                | (go_at_call 43; refine (HRP.out w2 w4 k4 r4 sa4 sn4 sc4 nt4 l4 h4 pa4 pn4 pc4 HG2 H4).mono ?_; intro e w5 h5; obtain ⟨he, hf5⟩ := h5; rw [errV] at he; subst he; have HF5 := Lib.hid hf5; clear hf5))
              refine ⟨rfl, ?_⟩
              show PaAns w br p o (altF 8 r0) _ _
              rw [HREQ.out]
              exact ⟨rfl, HG2.out.up HB1.out (H4.out.2.2.trans HF5.out (fun _ _ h => h))⟩
            | ok qr =>
              obtain ⟨y, l5⟩ := qr
              have HREQ : Hid (pcsR rec o g (acc ++ [y]) l5 n3 = r0) := by
                have := HR.out.2.2
                rw [pcsR_succ rec o g acc (c :: l2) n1 x l3 n3 y l5 hen ha hrp] at this
                exact this
              have HLE : Hid (l5.length ≤ l3.length ∧ l3.length < l2.length + 1) := ⟨(reps_suffix _ _ _ hrp).length_le, by have := hsx.2; simpa using this⟩
              rw [hrp] at HRP
              clear ha hen hrp hsx
              have HOPR : Hid (∀ (w2 w4 w5 : World) (e : Ending), RpAns (New w2 w4) w4 br p n3 o (.ok (y, l5)) e w5 → Fr (· = br) w2 w4 → ∃ k5 r5 sa5 sn5 sc5 nt5 l50 h5 pa5 pn5 pc5, e = .returned (.agg #[.int .i64 k5, .int .i32 r5, .slice sa5 sn5 sc5, .bool nt5, .int .i64 l50, .int .i64 h5, .slice pa5 pn5 pc5, .int .i64 ((min y.sz 401 : Nat) : Int)]) ∧ Hid (PtAt (New w2 w5) w5 [.int .i64 k5, .int .i32 r5, .slice sa5 sn5 sc5, .bool nt5, .int .i64 l50, .int .i64 h5, .slice pa5 pn5 pc5] y ∧ RdS w5 br p l5 n3 o ∧ Fr (· = br) w2 w5)) := by
                rintro w2 w4 w5 e ⟨v, rfl, h1, h2, h3⟩ h4
                obtain ⟨k5, r5, sa5, sn5, sc5, nt5, l50, h5, pa5, pn5, pc5, rfl⟩ := h1.rev7
                have hs1 := h3.size
                have hs2 := h4.size
                exact ⟨k5, r5, sa5, sn5, sc5, nt5, l50, h5, pa5, pn5, pc5, rfl, h1.mono (fun k hk => hk.elim (fun h => ⟨h.1, by have := h.2; omega⟩) (fun h => ⟨by have := h.1; omega, h.2⟩)), h2, h4.trans h3 (fun _ _ h => h)⟩
              have HAD : Hid (∀ (w2 w5 : World) (k5 r5 : Int) (sa5 : Option Addr) (sn5 sc5 : Nat) (nt5 : Bool) (l50 h5 : Int) (pa5 : Option Addr) (pn5 pc5 : Nat), Hid (Gt w1 w2 br (w.heap.size + 1) p (c :: l2) n1 o acc) → Hid (PtAt (New w2 w5) w5 [.int .i64 k5, .int .i32 r5, .slice sa5 sn5 sc5, .bool nt5, .int .i64 l50, .int .i64 h5, .slice pa5 pn5 pc5] y ∧ RdS w5 br p l5 n3 o ∧ Fr (· = br) w2 w5) →
                  Calls Try.prog 31 #[.pointer (some ⟨w.heap.size + 1, 0, none⟩), .agg #[.int .i64 k5, .int .i32 r5, .slice sa5 sn5 sc5, .bool nt5, .int .i64 l50, .int .i64 h5, .slice pa5 pn5 pc5, .int .i64 ((min y.sz 401 : Nat) : Int)]] w5 fun e w' => e = .returned (.tuple #[]) ∧ Hid (Gt w1 w' br (w.heap.size + 1) p l5 n3 o (acc ++ [y]))) := by
                intro w2 w5 k5 r5 sa5 sn5 sc5 nt5 l50 h5 pa5 pn5 pc5 h2 h
                have := h2.out.add (x := y) (v := [.int .i64 k5, .int .i32 r5, .slice sa5 sn5 sc5, .bool nt5, .int .i64 l50, .int .i64 h5, .slice pa5 pn5 pc5]) (by omega) h.out.1 h.out.2.1 h.out.2.2
                rw [show ptV [.int .i64 k5, .int .i32 r5, .slice sa5 sn5 sc5, .bool nt5, .int .i64 l50, .int .i64 h5, .slice pa5 pn5 pc5] y = .agg #[.int .i64 k5, .int .i32 r5, .slice sa5 sn5 sc5, .bool nt5, .int .i64 l50, .int .i64 h5, .slice pa5 pn5 pc5, .int .i64 ((min y.sz 401 : Nat) : Int)] from rfl] at this
                exact this
              go_wp2_with (first
                | (go_at_call 42; refine (ended_any br p (c :: l2) n1 o _ HR.out.1.2.1).mono ?_; rw [HEN.out]; rintro e w2 ⟨rfl, hbe⟩; have HG2 := Lib.hid (HR.out.1.below hbe); clear hbe)
                | (go_at_call 44; refine (HAT.out w2 HG2).mono ?_; intro e w4 hh; obtain ⟨k4, r4, sa4, sn4, sc4, nt4, l4, h4, pa4, pn4, pc4, he, H4⟩ := HOPA.out w2 w4 e hh; subst he; clear hh)
                | (go_at_call 43; refine (HRP.out w2 w4 k4 r4 sa4 sn4 sc4 nt4 l4 h4 pa4 pn4 pc4 HG2 H4).mono ?_; intro e w5 hh; obtain ⟨k5, r5, sa5, sn5, sc5, nt5, l50, h5, pa5, pn5, pc5, he, H5⟩ := HOPR.out w2 w4 w5 e hh H4.out.2.2; subst he; clear hh)
                | (go_at_call 31; refine (HAD.out w2 w5 k5 r5 sa5 sn5 sc5 nt5 l50 h5 pa5 pn5 pc5 HG2 H5).mono ?_; rintro e w6 ⟨rfl, H6⟩))
              go_roundw
              case rel => exact ⟨acc ++ [y], l5, n3, g, H6.out, by have := HLE.out; have := HR.out.2.1; simp only [List.length_cons] at this; omega, HREQ.out⟩
              case measure =>
                have h7 := H6.out.2.1.atN
                have h8 := HR.out.1.2.1.atN
                have h9 := HR.out.1.2.1.len
                have := HLE.out
                rw [h7, h8]
                simp only [List.length_cons] at *
                omega
  | false =>
    rw [hp] at hr0
    have hr0 : pcsR rec o (l.length + 1) [] l n = r0 := hr0
    have HP := Lib.hid hp
    have HR0 := Lib.hid hr0
    have HF0 : Hid (l.length < l.length + 1) := by show _ < _; omega
    have HTK : Hid (Calls Try.prog 33 #[.pointer (some ⟨br, 0, none⟩), .slice (some ⟨w1.heap.size, 0, none⟩) 1 1] (w1.alloc (.cells #[.int .i32 94] 21)) fun e w' => e = .returned (.bool false) ∧ Hid (Gt w1 w' br (w.heap.size + 1) p l n o [])) := by
      refine (took1_no HGT1.out.2.1 94 HP.out (by decide)).mono ?_
      rintro e w' ⟨rfl, h2⟩
      exact ⟨rfl, HGT1.out.below h2.out⟩
    clear hp hr0 h
    go_enter Try.func32, Try.ntmps32
    go_upto_region 2 with fail
    rw [HW1.out]
    go_upto_region 4 with (go_at_call 33; refine HTK.out.mono ?_; rintro e we ⟨rfl, HE⟩)
    go_loopw [] (fun wr => ∃ (acc : List Re) (l1 : List Int) (n1 f : Nat), Hid (Gt w1 wr br (w.heap.size + 1) p l1 n1 o acc ∧ l1.length < f ∧ pcsR rec o f acc l1 n1 = r0)) (fun wr => p.length - atN wr br)
    case atStart => exact ⟨_, _, _, _, HE.out, by have := HF0.out; omega, HR0.out⟩
    case round =>
      obtain ⟨acc, l1, n1, f, HR⟩ := hrel
      clear HE HR0 HF0 HGT1
      obtain ⟨g, hg⟩ : ∃ g, f = g + 1 := ⟨f - 1, by have := HR.out.2.1; omega⟩
      subst hg
      cases hen : ended l1 with
      | true =>
        have HREQ : Hid (altF 8 r0 = .ok (joinR 8 acc, l1, n1)) := by
          have := HR.out.2.2
          rw [pcsR, if_pos hen] at this
          rw [← this]; rfl
        have HEN := Lib.hid hen
        clear hen
        go_wp2_with (first
          | (go_at_call 42; refine (ended_any br p l1 n1 o _ HR.out.1.2.1).mono ?_; rw [HEN.out]; rintro e w2 ⟨rfl, hbe⟩; have HG2 := Lib.hid (HR.out.1.below hbe); clear hbe)
          | (go_at_call 34; refine (joined_any (w.heap.size + 1) 8 (by decide) acc _ HG2.out.1).mono ?_; intro e w8 hh; obtain ⟨k8, r8, sa8, sn8, sc8, nt8, l8, h8, pa8, pn8, pc8, he, hg8, HFIN⟩ := HJ.out _ e w8 HG2 hh; subst he; clear hh; obtain ⟨b0, b1, b2, b3, b4, b5, b6, b7, z0, z1, z2, z3, z4, z5, z6, z7⟩ := row8 hg8; have HG8 := Lib.hid hg8; clear hg8))
        have hput := put8 HG8.out (.int .i64 k8) (.int .i32 r8) (.slice sa8 sn8 sc8) (.bool nt8) (.int .i64 l8) (.int .i64 h8) (.slice pa8 pn8 pc8) (.int .i64 ((min (joinR 8 acc).sz 401 : Nat) : Int))
        have HEND := Lib.hid (HFIN.out _ hput.2)
        clear hput
        refine bodyPost_ret (v := .agg #[.int .i64 k8, .int .i32 r8, .slice sa8 sn8 sc8, .bool nt8, .int .i64 l8, .int .i64 h8, .slice pa8 pn8 pc8, .int .i64 ((min (joinR 8 acc).sz 401 : Nat) : Int)]) ?_ rfl ?_
        · rw [results_cell1 rfl]
          go_simp
        · show PaAns w br p o (altF 8 r0) _ _
          rw [HREQ.out]
          exact PaAns.ok (v := [.int .i64 k8, .int .i32 r8, .slice sa8 sn8 sc8, .bool nt8, .int .i64 l8, .int .i64 h8, .slice pa8 pn8 pc8]) rfl HEND.out
      | false =>
        have HEN := Lib.hid hen
        match l1, hen, HR, HEN with
        | [], hen, HR, HEN => simp [ended] at hen
        | c :: l2, hen, HR, HEN =>
          have HAT : Hid (∀ w2 : World, Hid (Gt w1 w2 br (w.heap.size + 1) p (c :: l2) n1 o acc) → Calls Try.prog 44 #[.pointer (some ⟨br, 0, none⟩)] w2 (PaAns w2 br p o (atomR rec (c :: l2) n1 o))) := fun w2 h2 => atom_any rec br p l2 c n1 o w2 HREC.out h2.out.2.1
          cases ha : atomR rec (c :: l2) n1 o with
          | error ec =>
            have HREQ : Hid (altF 8 r0 = .error ec) := by
              have := HR.out.2.2
              rw [pcsR, hen] at this
              simp only [ha] at this
              rw [← this]; rfl
            rw [ha] at HAT
            clear ha hen
            go_wp2_with (first
              | (go_at_call 42; refine (ended_any br p (c :: l2) n1 o _ HR.out.1.2.1).mono ?_; rw [HEN.out]; rintro e w2 ⟨rfl, hbe⟩; have HG2 := Lib.hid (HR.out.1.below hbe); clear hbe)
              | (go_at_call 44; refine (HAT.out w2 HG2).mono ?_; intro e w4 h4; obtain ⟨he, hf4⟩ := h4; rw [errV] at he; subst he; have HF4 := Lib.hid hf4; clear hf4))
            refine ⟨rfl, ?_⟩
            show PaAns w br p o (altF 8 r0) _ _
            rw [HREQ.out]
            exact ⟨rfl, HG2.out.up HB1.out HF4.out⟩
          | ok qa =>
            obtain ⟨x, l3, n3⟩ := qa
            rw [ha] at HAT
            have hsx := atomR_suffix HRS.out ha
            have HOPA : Hid (∀ (w2 w4 : World) (e : Ending), PaAns w2 br p o (.ok (x, l3, n3)) e w4 → ∃ k4 r4 sa4 sn4 sc4 nt4 l4 h4 pa4 pn4 pc4, e = .returned (.agg #[.int .i64 k4, .int .i32 r4, .slice sa4 sn4 sc4, .bool nt4, .int .i64 l4, .int .i64 h4, .slice pa4 pn4 pc4, .int .i64 ((min x.sz 401 : Nat) : Int)]) ∧ Hid (PtAt (New w2 w4) w4 [.int .i64 k4, .int .i32 r4, .slice sa4 sn4 sc4, .bool nt4, .int .i64 l4, .int .i64 h4, .slice pa4 pn4 pc4] x ∧ RdS w4 br p l3 n3 o ∧ Fr (· = br) w2 w4)) := by
              rintro w2 w4 e ⟨v, rfl, h1, h2, h3⟩
              obtain ⟨k4, r4, sa4, sn4, sc4, nt4, l4, h4, pa4, pn4, pc4, rfl⟩ := h1.rev7
              exact ⟨k4, r4, sa4, sn4, sc4, nt4, l4, h4, pa4, pn4, pc4, rfl, h1, h2, h3⟩
            have HRP : Hid (∀ (w2 w4 : World) (k4 r4 : Int) (sa4 : Option Addr) (sn4 sc4 : Nat) (nt4 : Bool) (l4 h4 : Int) (pa4 : Option Addr) (pn4 pc4 : Nat), Hid (Gt w1 w2 br (w.heap.size + 1) p (c :: l2) n1 o acc) → Hid (PtAt (New w2 w4) w4 [.int .i64 k4, .int .i32 r4, .slice sa4 sn4 sc4, .bool nt4, .int .i64 l4, .int .i64 h4, .slice pa4 pn4 pc4] x ∧ RdS w4 br p l3 n3 o ∧ Fr (· = br) w2 w4) →
                Calls Try.prog 43 #[.pointer (some ⟨br, 0, none⟩), .agg #[.int .i64 k4, .int .i32 r4, .slice sa4 sn4 sc4, .bool nt4, .int .i64 l4, .int .i64 h4, .slice pa4 pn4 pc4, .int .i64 ((min x.sz 401 : Nat) : Int)]] w4 (RpAns (New w2 w4) w4 br p n3 o (reps (l3.length + 1) x l3))) := by
              intro w2 w4 k4 r4 sa4 sn4 sc4 nt4 l4 h4 pa4 pn4 pc4 h2 h
              have := repeated_any (New w2 w4) br p l3 n3 o x [.int .i64 k4, .int .i32 r4, .slice sa4 sn4 sc4, .bool nt4, .int .i64 l4, .int .i64 h4, .slice pa4 pn4 pc4] w4 h.out.2.1 h.out.1 (fun k hk => ⟨hk.2, by have := hk.1; have := h2.out.2.1.lt; omega⟩)
              rw [show ptV [.int .i64 k4, .int .i32 r4, .slice sa4 sn4 sc4, .bool nt4, .int .i64 l4, .int .i64 h4, .slice pa4 pn4 pc4] x = .agg #[.int .i64 k4, .int .i32 r4, .slice sa4 sn4 sc4, .bool nt4, .int .i64 l4, .int .i64 h4, .slice pa4 pn4 pc4, .int .i64 ((min x.sz 401 : Nat) : Int)] from rfl] at this
              exact this
            cases hrp : reps (l3.length + 1) x l3 with
            | error ec =>
              have HREQ : Hid (altF 8 r0 = .error ec) := by
                have := HR.out.2.2
                rw [pcsR, hen] at this
                simp only [ha, hrp] at this
                rw [← this]; rfl
              rw [hrp] at HRP
              clear ha hen hrp hsx
              go_wp2_with (first
                | (go_at_call 42; refine (ended_any br p (c :: l2) n1 o _ HR.out.1.2.1).mono ?_; rw [HEN.out]; rintro e w2 ⟨rfl, hbe⟩; have HG2 := Lib.hid (HR.out.1.below hbe); clear hbe)
                | (go_at_call 44; refine (HAT.out w2 HG2).mono ?_; intro e w4 hh; obtain ⟨k4, r4, sa4, sn4, sc4, nt4, l4, h4, pa4, pn4, pc4, he, H4⟩ := HOPA.out w2 w4 e hh; subst he; clear hh)
                | (go_at_call 43; refine (HRP.out w2 w4 k4 r4 sa4 sn4 sc4 nt4 l4 h4 pa4 pn4 pc4 HG2 H4).mono ?_; intro e w5 h5; obtain ⟨he, hf5⟩ := h5; rw [errV] at he; subst he; have HF5 := Lib.hid hf5; clear hf5))
              refine ⟨rfl, ?_⟩
              show PaAns w br p o (altF 8 r0) _ _
              rw [HREQ.out]
              exact ⟨rfl, HG2.out.up HB1.out (H4.out.2.2.trans HF5.out (fun _ _ h => h))⟩
            | ok qr =>
              obtain ⟨y, l5⟩ := qr
              have HREQ : Hid (pcsR rec o g (acc ++ [y]) l5 n3 = r0) := by
                have := HR.out.2.2
                rw [pcsR_succ rec o g acc (c :: l2) n1 x l3 n3 y l5 hen ha hrp] at this
                exact this
              have HLE : Hid (l5.length ≤ l3.length ∧ l3.length < l2.length + 1) := ⟨(reps_suffix _ _ _ hrp).length_le, by have := hsx.2; simpa using this⟩
              rw [hrp] at HRP
              clear ha hen hrp hsx
              have HOPR : Hid (∀ (w2 w4 w5 : World) (e : Ending), RpAns (New w2 w4) w4 br p n3 o (.ok (y, l5)) e w5 → Fr (· = br) w2 w4 → ∃ k5 r5 sa5 sn5 sc5 nt5 l50 h5 pa5 pn5 pc5, e = .returned (.agg #[.int .i64 k5, .int .i32 r5, .slice sa5 sn5 sc5, .bool nt5, .int .i64 l50, .int .i64 h5, .slice pa5 pn5 pc5, .int .i64 ((min y.sz 401 : Nat) : Int)]) ∧ Hid (PtAt (New w2 w5) w5 [.int .i64 k5, .int .i32 r5, .slice sa5 sn5 sc5, .bool nt5, .int .i64 l50, .int .i64 h5, .slice pa5 pn5 pc5] y ∧ RdS w5 br p l5 n3 o ∧ Fr (· = br) w2 w5)) := by
                rintro w2 w4 w5 e ⟨v, rfl, h1, h2, h3⟩ h4
                obtain ⟨k5, r5, sa5, sn5, sc5, nt5, l50, h5, pa5, pn5, pc5, rfl⟩ := h1.rev7
                have hs1 := h3.size
                have hs2 := h4.size
                exact ⟨k5, r5, sa5, sn5, sc5, nt5, l50, h5, pa5, pn5, pc5, rfl, h1.mono (fun k hk => hk.elim (fun h => ⟨h.1, by have := h.2; omega⟩) (fun h => ⟨by have := h.1; omega, h.2⟩)), h2, h4.trans h3 (fun _ _ h => h)⟩
              have HAD : Hid (∀ (w2 w5 : World) (k5 r5 : Int) (sa5 : Option Addr) (sn5 sc5 : Nat) (nt5 : Bool) (l50 h5 : Int) (pa5 : Option Addr) (pn5 pc5 : Nat), Hid (Gt w1 w2 br (w.heap.size + 1) p (c :: l2) n1 o acc) → Hid (PtAt (New w2 w5) w5 [.int .i64 k5, .int .i32 r5, .slice sa5 sn5 sc5, .bool nt5, .int .i64 l50, .int .i64 h5, .slice pa5 pn5 pc5] y ∧ RdS w5 br p l5 n3 o ∧ Fr (· = br) w2 w5) →
                  Calls Try.prog 31 #[.pointer (some ⟨w.heap.size + 1, 0, none⟩), .agg #[.int .i64 k5, .int .i32 r5, .slice sa5 sn5 sc5, .bool nt5, .int .i64 l50, .int .i64 h5, .slice pa5 pn5 pc5, .int .i64 ((min y.sz 401 : Nat) : Int)]] w5 fun e w' => e = .returned (.tuple #[]) ∧ Hid (Gt w1 w' br (w.heap.size + 1) p l5 n3 o (acc ++ [y]))) := by
                intro w2 w5 k5 r5 sa5 sn5 sc5 nt5 l50 h5 pa5 pn5 pc5 h2 h
                have := h2.out.add (x := y) (v := [.int .i64 k5, .int .i32 r5, .slice sa5 sn5 sc5, .bool nt5, .int .i64 l50, .int .i64 h5, .slice pa5 pn5 pc5]) (by omega) h.out.1 h.out.2.1 h.out.2.2
                rw [show ptV [.int .i64 k5, .int .i32 r5, .slice sa5 sn5 sc5, .bool nt5, .int .i64 l50, .int .i64 h5, .slice pa5 pn5 pc5] y = .agg #[.int .i64 k5, .int .i32 r5, .slice sa5 sn5 sc5, .bool nt5, .int .i64 l50, .int .i64 h5, .slice pa5 pn5 pc5, .int .i64 ((min y.sz 401 : Nat) : Int)] from rfl] at this
                exact this
              go_wp2_with (first
                | (go_at_call 42; refine (ended_any br p (c :: l2) n1 o _ HR.out.1.2.1).mono ?_; rw [HEN.out]; rintro e w2 ⟨rfl, hbe⟩; have HG2 := Lib.hid (HR.out.1.below hbe); clear hbe)
                | (go_at_call 44; refine (HAT.out w2 HG2).mono ?_; intro e w4 hh; obtain ⟨k4, r4, sa4, sn4, sc4, nt4, l4, h4, pa4, pn4, pc4, he, H4⟩ := HOPA.out w2 w4 e hh; subst he; clear hh)
                | (go_at_call 43; refine (HRP.out w2 w4 k4 r4 sa4 sn4 sc4 nt4 l4 h4 pa4 pn4 pc4 HG2 H4).mono ?_; intro e w5 hh; obtain ⟨k5, r5, sa5, sn5, sc5, nt5, l50, h5, pa5, pn5, pc5, he, H5⟩ := HOPR.out w2 w4 w5 e hh H4.out.2.2; subst he; clear hh)
                | (go_at_call 31; refine (HAD.out w2 w5 k5 r5 sa5 sn5 sc5 nt5 l50 h5 pa5 pn5 pc5 HG2 H5).mono ?_; rintro e w6 ⟨rfl, H6⟩))
              go_roundw
              case rel => exact ⟨acc ++ [y], l5, n3, g, H6.out, by have := HLE.out; have := HR.out.2.1; simp only [List.length_cons] at this; omega, HREQ.out⟩
              case measure =>
                have h7 := H6.out.2.1.atN
                have h8 := HR.out.1.2.1.atN
                have h9 := HR.out.1.2.1.len
                have := HLE.out
                rw [h7, h8]
                simp only [List.length_cons] at *
                omega
end Go.Proofs.Ytkjiobbkbhmijaa.U
