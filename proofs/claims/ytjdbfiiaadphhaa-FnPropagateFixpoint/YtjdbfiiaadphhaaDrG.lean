/- The draw of a constraint that may be invalid, and of domains for it. -/
import Derived.Test.YtjdbfiiaadphhaaDrE
namespace Go.Proofs.Ytjdbfiiaadphhaa
open Go.ChangeShapes Go.WideShapes Go.ChangeAt Go.RowKit Go.Shelf
set_option linter.unusedVariables false
set_option linter.unusedSimpArgs false

theorem conDn_put {Q0 : Nat → Bool} {n0 B R C : Nat} {w W : World} {p q s : Int} {c : Con} {u1 u2 u4 : Value} (k : KP Q0 B R C n0 w) (r1 : RdInts (av (qs Q0 R C) W) u1 c.vars) (r2 : RdInts (av (qs Q0 R C) W) u2 c.args) (r4 : RdRows (av (qs Q0 R C) W) u4 c.rows) (rd : Rd n0 B q W) (dn : Dn B w W) {M : Nat} (h1 : 1 ≤ c.vars.length) (hc : ConLe c M) (hp : p ≤ q) (hq : q ≤ p + s) (hnil : NilOk u2) :
    ConDn Q0 n0 B p s M w (.returned (.agg #[.int .i64 c.kind, u1, u2, .int .i64 c.bound, u4])) (putR W R (.int .i64 c.kind) u1 u2 (.int .i64 c.bound) u4) := by
  have fr : Fr (qs Q0 R C) W (putR W R (.int .i64 c.kind) u1 u2 (.int .i64 c.bound) u4) := ((((fr_setR _ _).trans (fr_setR _ _)).trans (fr_setR _ _)).trans (fr_setR _ _)).trans (fr_setR _ _)
  have i1 : Inc (av (qs Q0 R C) W) (av Q0 (putR W R (.int .i64 c.kind) u1 u2 (.int .i64 c.bound) u4)) := fun p x hx => by
    have h1 := fr.inc _ _ hx
    obtain ⟨e1, h2⟩ := av_at _ _ h1
    exact av_mk _ _ (qs_Q e1) h2
  have hBR : B < R := by have := k.hB; have := k.hR; omega
  refine ⟨u1, u2, u4, c, q, rfl, r1.inc i1, r2.inc i1, r4.inc i1, hnil, h1, hc, hp, hq, ?_, ?_⟩
  · exact rd_setC (w := w) hBR (rd_setC (w := w) hBR (rd_setC (w := w) hBR (rd_setC (w := w) hBR (rd_setC (w := w) hBR rd _ _) _ _) _ _) _ _) _ _
  · exact dn_setC k.hR (dn_setC k.hR (dn_setC k.hR (dn_setC k.hR (dn_setC k.hR dn _ _) _ _) _ _) _ _) _ _
theorem ConLe.mono' {c : Con} {a b : Nat} (h : ConLe c a) (hab : a ≤ b) : ConLe c b := ⟨Nat.le_trans h.1 hab, Nat.le_trans h.2.1 hab, h.2.2.mono hab⟩

end Go.Proofs.Ytjdbfiiaadphhaa
