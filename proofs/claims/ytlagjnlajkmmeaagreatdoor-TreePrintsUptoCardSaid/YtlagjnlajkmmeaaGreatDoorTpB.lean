/-
The program's textSize and numberSize (labels and goto), by contracts.
-/
import Derived.Test.YtlagjnlajkmmeaaGreatDoorTpA
import Derived.WalkMore
import Derived.ScopeJumps
namespace Go
/-- As Q; by a goto to label l: J l. -/
def Exit.jumps (J : Nat → Act → World → Prop) (Q : Exit → Act → World → Prop) : Exit → Act → World → Prop
  | .goto l, a, w => J l a w
  | e, a, w => Q e a w
section
variable {P : Program} {a : Act} {w : World} {Q : Exit → Act → World → Prop}
/-- A scope in which the run jumps back to any of its labels: what holds at each, and a measure that every pass lowers. -/
theorem wp_scope_jumpsN {c : Code} (J : Nat → Act → World → Prop) (μ : Act → World → Nat)
    (first : c.wp P (Exit.jumps J Q) a w)
    (pass : ∀ l a w, J l a w → ∃ rest, findLabel c l = some rest ∧ rest.wp P (Exit.jumps (fun l' a' w' => J l' a' w' ∧ μ a' w' < μ a w) Q) a w) : (Code.scope c).wp P Q a w := by
  intro b k cs
  have key : ∀ n l a w, μ a w = n → J l a w → ∃ rest, findLabel c l = some rest ∧ ∃ e a' w', Q e a' w' ∧ Arrives P (lone (b.at a (.code rest :: .inScope c :: k)) cs w) b k cs e a' w' := by
    intro n
    induction n using Nat.strongRecOn with
    | _ n ih =>
      intro l a w hn hJ
      obtain ⟨rest, hf, hp⟩ := pass l a w hJ
      refine ⟨rest, hf, ?_⟩
      obtain ⟨e, a₁, w₁, hq, harr⟩ := hp b (.inScope c :: k) cs
      cases e with
      | normal => exact ⟨.normal, a₁, w₁, hq, Steps.trans harr (.one step_inScope)⟩
      | exit id => exact ⟨.exit id, a₁, w₁, hq, fun k' hk => harr k' (by simp [exitTo, hk])⟩
      | goto l' =>
        obtain ⟨hJ', hlt⟩ := hq
        obtain ⟨rest', hf', e₂, a₂, w₂, hq₂, harr₂⟩ := ih _ (by omega) l' a₁ w₁ rfl hJ'
        have hg : gotoIn l' (.inScope c :: k) = some (.code rest' :: .inScope c :: k) := by simp [gotoIn, hf']
        exact ⟨e₂, a₂, w₂, hq₂, .of_steps (harr _ hg) harr₂⟩
      | ret => exact ⟨_, a₁, w₁, hq, harr⟩
      | panic ch => exact ⟨_, a₁, w₁, hq, harr⟩
      | outgrown => exact ⟨_, a₁, w₁, hq, harr⟩
  obtain ⟨e, a₁, w₁, hq, harr⟩ := first b (.inScope c :: k) cs
  cases e with
  | normal => exact ⟨.normal, a₁, w₁, hq, .head step_scope (Steps.trans harr (.one step_inScope))⟩
  | exit id => exact ⟨.exit id, a₁, w₁, hq, fun k' hk => .head step_scope (harr k' (by simp [exitTo, hk]))⟩
  | goto l' =>
    obtain ⟨rest', hf', e₂, a₂, w₂, hq₂, harr₂⟩ := key _ l' a₁ w₁ rfl hq
    have hg : gotoIn l' (.inScope c :: k) = some (.code rest' :: .inScope c :: k) := by simp [gotoIn, hf']
    exact ⟨e₂, a₂, w₂, hq₂, .of_steps (.head step_scope (harr _ hg)) harr₂⟩
  | ret => exact ⟨_, a₁, w₁, hq, .of_steps (.one step_scope) harr⟩
  | panic ch => exact ⟨_, a₁, w₁, hq, .of_steps (.one step_scope) harr⟩
  | outgrown => exact ⟨_, a₁, w₁, hq, .of_steps (.one step_scope) harr⟩
end
end Go
namespace Go.Proofs.YtlagjnlajkmmeaaGreatDoor
open Go.RowKit Go.Proofs.YtlagjnlajkmmeaaGreatDoor.Tok

/-- How many bytes a text has behind its opening quote. -/
def qn (l : List UInt8) : Option Nat := (quotedF l).map (·.2)
theorem qn_skip {c : UInt8} {r : List UInt8} (h : c ≠ 34) : qn (c :: r) = (qn r).map (· + 1) := by
  cases r with
  | nil => simp [qn, quotedF, h]
  | cons d r => simp [qn, quotedF, h, Function.comp_def]
theorem qn_pair (r : List UInt8) : qn (34 :: 34 :: r) = (qn r).map (· + 2) := by
  simp [qn, quotedF, Function.comp_def]
theorem qn_end {r : List UInt8} (h : ∀ d, r[0]? = some d → d ≠ 34) : qn (34 :: r) = some 1 := by
  cases r with
  | nil => simp [qn, quotedF]
  | cons d r => simp [qn, quotedF, h d rfl]
/-- What is behind the first k + 1 bytes decides. -/
def QAt (l : List UInt8) (k : Nat) : Prop := qn l.tail = (qn (l.drop (k + 1))).map (· + k)
theorem dropc {l : List UInt8} {p : Nat} {c : UInt8} (hc : l[p]? = some c) : l.drop p = c :: l.drop (p + 1) := by
  have hi := (List.getElem?_eq_some_iff.1 hc)
  rw [List.drop_eq_getElem_cons hi.1, hi.2]
theorem QAt.start (l : List UInt8) : QAt l 0 := by
  unfold QAt
  rw [List.drop_one]
  simp
theorem map_add (o : Option Nat) (i k : Nat) : (o.map (· + i)).map (· + k) = o.map (· + (k + i)) := by
  cases o with
  | none => rfl
  | some x => simp; omega
theorem QAt.none {l : List UInt8} {k : Nat} (h : QAt l k) (hk : l.length ≤ k + 1) : qn l.tail = .none := by
  unfold QAt at h
  rw [h, List.drop_eq_nil_of_le hk]
  rfl
theorem QAt.skip {l : List UInt8} {k : Nat} {c : UInt8} (h : QAt l k) (hc : l[k + 1]? = some c) (hn : c ≠ 34) : QAt l (k + 1) := by
  unfold QAt at h ⊢
  rw [h, dropc hc, qn_skip hn, map_add]
theorem QAt.pair {l : List UInt8} {k : Nat} (h : QAt l k) (hc : l[k + 1]? = some 34) (hd : l[k + 2]? = some 34) : QAt l (k + 2) := by
  unfold QAt at h ⊢
  rw [h, dropc hc, dropc hd, qn_pair, map_add]
theorem QAt.fin {l : List UInt8} {k : Nat} (h : QAt l k) (hc : l[k + 1]? = some 34) (hd : ∀ d, l[k + 2]? = some d → d ≠ 34) : qn l.tail = some (k + 1) := by
  unfold QAt at h
  rw [h, dropc hc, qn_end (fun d hx => hd d (by rw [List.getElem?_drop] at hx; exact hx))]
  simp; omega
/-- The size of the text at the head, the quotes among it; 0: it has no end. -/
def textN (l : List UInt8) : Nat := match qn l.tail with | .none => 0 | .some m => m + 1
theorem textN_none {l : List UInt8} (h : qn l.tail = .none) : textN l = 0 := by unfold textN; rw [h]
theorem textN_some {l : List UInt8} {m : Nat} (h : qn l.tail = .some m) : textN l = m + 1 := by unfold textN; rw [h]

set_option maxRecDepth 20000 in
set_option maxHeartbeats 4000000 in
theorem text_size (l : List UInt8) (h0 : 1 ≤ l.length) (hl : l.length ≤ 1000000) (w : World) :
    Calls Tryz.prog 92 #[.string ⟨l.toArray⟩] w fun e w' => e = .returned (.int .i64 (textN l : Nat)) ∧ w' = w := by
  obtain ⟨n, hn⟩ : ∃ n, n = l.length := ⟨_, rfl⟩
  have hsz : (⟨l.toArray⟩ : ByteArray).size = n := by rw [hn]; rfl
  rw [← hn] at h0 hl
  have HN := Lib.hid hn
  obtain ⟨K, hK⟩ : ∃ K, K = textN l := ⟨_, rfl⟩
  rw [← hK]
  have HK := Lib.hid hK
  have HG := Lib.hid (fun (k : Nat) (c : UInt8) (hc : l[k]? = some c) => (show ∀ h, (⟨l.toArray⟩ : ByteArray)[k]'h = c from fun h => (List.getElem?_eq_some_iff.1 hc).2))
  have HX := Lib.hid (fun (k : Nat) (hk : k < n) => (show ∃ c, l[k]? = some c from ⟨_, List.getElem?_eq_getElem (by rw [← hn]; exact hk)⟩))
  clear hK hn
  have HS := Lib.hid (QAt.start l)
  go_enter Tryz.func92, Tryz.ntmps92
  go_wp2_with fail
  refine wp_scope_jumpsN (fun lb a' w' => w' = w ∧ lb = 0 ∧ ∃ (k : Nat) (u4 u5 u6 u7 u8 u9 u10 u11 u12 u13 u14 u15 u16 u17 u18 u19 u20 u21 u22 u23 u24 u25 u26 : Value), a' = { tmps := #[.string ⟨l.toArray⟩, undef, .int .i64 0, .int .i64 (k : Int), u4, u5, u6, u7, u8, u9, u10, u11, u12, u13, u14, u15, u16, u17, u18, u19, u20, u21, u22, u23, u24, u25, u26], defers := [] } ∧ k < n ∧ Hid (QAt l k)) (fun a' _ => n - (intOf (a'.tmps.getD 3 undef)).toNat) ?_ ?_
  · have HQ := HS
    go_wp2_with fail
    go_step3
    by_cases he : 1 = n
    · have HR := Lib.hid (textN_none (HQ.out.none (by rw [← HN.out]; omega)))
      go_wp2_with fail
      simp only [Exit.jumps]
      go_ret
      exact ⟨by rw [HK.out, HR.out]; rfl, rfl⟩
    · have hlt : 1 < n := by omega
      clear he
      obtain ⟨c, hc⟩ := HX.out (1) hlt
      have hget := HG.out _ _ hc
      have HC := Lib.hid hc
      clear hc
      by_cases hq : c.toNat = 34
      · obtain rfl : c = 34 := by rw [← UInt8.ofNat_toNat (x := c), hq]; rfl
        clear hq
        by_cases he2 : n ≤ 2
        · have HR := Lib.hid (textN_some (HQ.out.fin HC.out (fun d hx => by have h := (List.getElem?_eq_some_iff.1 hx).1; rw [← HN.out] at h; omega)))
          go_wp2_with fail
          simp only [Exit.jumps]
          go_ret
          exact ⟨by rw [HK.out, HR.out]; rfl, rfl⟩
        · have hlt2 : 2 < n := by omega
          clear he2
          obtain ⟨d, hd⟩ := HX.out (2) hlt2
          have hget2 := HG.out _ _ hd
          have HD := Lib.hid hd
          clear hd
          by_cases hq2 : d.toNat = 34
          · obtain rfl : d = 34 := by rw [← UInt8.ofNat_toNat (x := d), hq2]; rfl
            clear hq2
            have HQ2 := Lib.hid (HQ.out.pair HC.out HD.out)
            go_wp2_with fail
            go_step3
            exact ⟨rfl, rfl, 2, _, _, _, _, _, _, _, _, _, _, _, _, _, _, _, _, _, _, _, _, _, _, _, rfl, hlt2, HQ2⟩
          · have hq3 : ((d.toNat : Int) == 34) = false := by simp; omega
            have HR := Lib.hid (textN_some (HQ.out.fin HC.out (fun x hx e => by rw [HD.out] at hx; injection hx with hx; subst hx; exact hq2 (by rw [e]; rfl))))
            clear hq2
            go_wp2_with fail
            simp only [Exit.jumps]
            go_ret
            exact ⟨by rw [HK.out, HR.out]; rfl, rfl⟩
      · have hq3 : ((c.toNat : Int) == 34) = false := by simp; omega
        have HQ2 := Lib.hid (HQ.out.skip HC.out (fun e => hq (by rw [e]; rfl)))
        clear hq
        go_wp2_with fail
        go_step3
        exact ⟨rfl, rfl, 1, _, _, _, _, _, _, _, _, _, _, _, _, _, _, _, _, _, _, _, _, _, _, _, rfl, hlt, HQ2⟩
  · rintro lb a' w' ⟨rfl, rfl, k, u4, u5, u6, u7, u8, u9, u10, u11, u12, u13, u14, u15, u16, u17, u18, u19, u20, u21, u22, u23, u24, u25, u26, rfl, hk, HQ⟩
    refine ⟨_, rfl, ?_⟩
    by_cases he : k + 1 = n
    · have HR := Lib.hid (textN_none (HQ.out.none (by rw [← HN.out]; omega)))
      go_wp2_with fail
      simp only [Exit.jumps]
      go_ret
      exact ⟨by rw [HK.out, HR.out]; rfl, rfl⟩
    · have hlt : k + 1 < n := by omega
      clear he
      obtain ⟨c, hc⟩ := HX.out (k + 1) hlt
      have hget := HG.out _ _ hc
      have HC := Lib.hid hc
      clear hc
      by_cases hq : c.toNat = 34
      · obtain rfl : c = 34 := by rw [← UInt8.ofNat_toNat (x := c), hq]; rfl
        clear hq
        by_cases he2 : n ≤ k + 2
        · have HR := Lib.hid (textN_some (HQ.out.fin HC.out (fun d hx => by have h := (List.getElem?_eq_some_iff.1 hx).1; rw [← HN.out] at h; omega)))
          go_wp2_with fail
          simp only [Exit.jumps]
          go_ret
          exact ⟨by rw [HK.out, HR.out]; rfl, rfl⟩
        · have hlt2 : k + 2 < n := by omega
          clear he2
          obtain ⟨d, hd⟩ := HX.out (k + 2) hlt2
          have hget2 := HG.out _ _ hd
          have HD := Lib.hid hd
          clear hd
          by_cases hq2 : d.toNat = 34
          · obtain rfl : d = 34 := by rw [← UInt8.ofNat_toNat (x := d), hq2]; rfl
            clear hq2
            have HQ2 := Lib.hid (HQ.out.pair HC.out HD.out)
            go_wp2_with fail
            go_step3
            exact ⟨⟨rfl, rfl, k + 2, _, _, _, _, _, _, _, _, _, _, _, _, _, _, _, _, _, _, _, _, _, _, _, by go_num, hlt2, HQ2⟩, by simp [intOf]; omega⟩
          · have hq3 : ((d.toNat : Int) == 34) = false := by simp; omega
            have HR := Lib.hid (textN_some (HQ.out.fin HC.out (fun x hx e => by rw [HD.out] at hx; injection hx with hx; subst hx; exact hq2 (by rw [e]; rfl))))
            clear hq2
            go_wp2_with fail
            simp only [Exit.jumps]
            go_ret
            exact ⟨by rw [HK.out, HR.out]; rfl, rfl⟩
      · have hq3 : ((c.toNat : Int) == 34) = false := by simp; omega
        have HQ2 := Lib.hid (HQ.out.skip HC.out (fun e => hq (by rw [e]; rfl)))
        clear hq
        go_wp2_with fail
        go_step3
        exact ⟨⟨rfl, rfl, k + 1, _, _, _, _, _, _, _, _, _, _, _, _, _, _, _, _, _, _, _, _, _, _, _, by go_num, hlt, HQ2⟩, by simp [intOf]; omega⟩
end Go.Proofs.YtlagjnlajkmmeaaGreatDoor
